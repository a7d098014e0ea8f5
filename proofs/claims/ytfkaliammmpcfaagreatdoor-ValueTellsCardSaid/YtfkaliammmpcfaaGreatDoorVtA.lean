/-
  chattelref08.Value: what it answers of a number by itself, and of a fixing.
-/
import Derived.Test.YtfkaliammmpcfaaGreatDoorVlI
import Derived.Test.YtfkaliammmpcfaaGreatDoorFq
import Derived.Test.YtfkaliammmpcfaaGreatDoorRefSU
import Derived.Test.YtfkaliammmpcfaaGreatDoorTrm
namespace Go.Proofs.YtfkaliammmpcfaaGreatDoor
open Go.RowKit Go.Lib Go.Shelf Go.Maps
set_option linter.unusedVariables false
set_option linter.unusedSimpArgs false

/-- A result that is not set yet, and a node, both of the call's own. -/
structure RvS (w0 wx : World) (Q : Nat) (op a b n d : Int) : Prop where
  r0 : wx.cell? ⟨Q, 0, none⟩ = some (.int .i64 0)
  r1 : wx.cell? ⟨Q, 1, none⟩ = some (.int .i64 0)
  z0 : wx.frozen? ⟨Q, 0, none⟩ = false
  z1 : wx.frozen? ⟨Q, 1, none⟩ = false
  n0 : wx.cell? ⟨Q + 1, 0, none⟩ = some (.int .i64 op)
  n1 : wx.cell? ⟨Q + 1, 1, none⟩ = some (.int .i64 a)
  n2 : wx.cell? ⟨Q + 1, 2, none⟩ = some (.int .i64 b)
  n3 : wx.cell? ⟨Q + 1, 3, none⟩ = some (.int .i64 n)
  n4 : wx.cell? ⟨Q + 1, 4, none⟩ = some (.int .i64 d)
  bel : Below w0.heap.size w0 wx
theorem RvS.keep {w0 wx wy : World} {Q : Nat} {op a b n d : Int} (h : RvS w0 wx Q op a b n d) (hb : Below wx.heap.size wx wy) : RvS w0 wy Q op a b n d :=
  ⟨keepF hb h.r0, keepF hb h.r1, (hb.frozen (p := ⟨Q, 0, none⟩) (ltF h.r0)).trans h.z0, (hb.frozen (p := ⟨Q, 1, none⟩) (ltF h.r0)).trans h.z1, keepF hb h.n0, keepF hb h.n1, keepF hb h.n2, keepF hb h.n3, keepF hb h.n4, onF h.bel hb⟩
theorem RvS.new (w : World) (op a b n d : Int) : RvS w ((w.alloc (.cells #[.int .i64 0, .int .i64 0] 29)).alloc (.cells #[.int .i64 op, .int .i64 a, .int .i64 b, .int .i64 n, .int .i64 d] 47)) w.heap.size op a b n d := by
  have c0 : (w.alloc (.cells #[.int .i64 0, .int .i64 0] 29)).cell? ⟨w.heap.size, 0, none⟩ = some (.int .i64 0) := by rw [World.cell?_alloc_at _ _ _ _ rfl]; rfl
  have c1 : (w.alloc (.cells #[.int .i64 0, .int .i64 0] 29)).cell? ⟨w.heap.size, 1, none⟩ = some (.int .i64 0) := by rw [World.cell?_alloc_at _ _ _ _ rfl]; rfl
  refine ⟨keepF (newF _ _) c0, keepF (newF _ _) c1, ((newF _ _).frozen (p := ⟨w.heap.size, 0, none⟩) (by simp)).trans (World.frozen?_alloc_at _ _ _ _ rfl), ((newF _ _).frozen (p := ⟨w.heap.size, 1, none⟩) (by simp)).trans (World.frozen?_alloc_at _ _ _ _ rfl), ?_, ?_, ?_, ?_, ?_, onF (newF _ _) (newF _ _)⟩
  all_goals rw [World.cell?_alloc_at _ _ _ _ (by simp)]
  all_goals rfl
theorem set2Q {z Q : Nat} {w w1 : World} {x0 x1 : Value} (hb : Below z w w1) (hQ : z ≤ Q) : Below z w ((w1.setCell ⟨Q, 0, none⟩ x0).setCell ⟨Q, 1, none⟩ x1) := Below.setCell (Below.setCell hb hQ _) hQ _
set_option maxRecDepth 100000 in
set_option maxHeartbeats 4000000 in
theorem rv_num (t : List Nd) (b o cap : Nat) (p : Nat) (hp : p < t.length) (hcap : t.length ≤ cap) (hl : t.length ≤ 1000) (e : opA t p = 1) (day : Int) (lv : Value) (w : World) (hN : NdA w b o t) :
    Calls Tryz.prog 9 #[.slice (some ⟨b, o, none⟩) t.length cap, .int .i64 (p : Nat), .int .i64 day, lv] w fun e w' => e = .returned (.tuple #[.agg #[.int .i64 (t.getD p default).num, .int .i64 (t.getD p default).den], .bool true, .int .i64 0]) ∧ Below w.heap.size w w' := by
  have HN0 := Lib.hid (newF w (.cells #[.int .i64 0, .int .i64 0] 29))
  obtain ⟨k0, k1, k2, k3, k4⟩ := (hN.keep HN0.out) p hp
  have hop : (t.getD p default).op = 1 := e
  rw [hop] at k0
  have p0 : (0 : Int) ≤ (p : Int) := by omega
  have p1 : (p : Int) < (t.length : Int) := by omega
  generalize t.getD p default = nd at *
  obtain ⟨q0, qa, qb, qn, qd⟩ := nd
  dsimp only at k0 k1 k2 k3 k4
  have HS := Lib.hid (RvS.new w 1 qa qb qn qd)
  have r0 := HS.out.r0
  have r1 := HS.out.r1
  have z0 := HS.out.z0
  have z1 := HS.out.z1
  clear hN hop e
  go_enter Tryz.func9, Tryz.ntmps9
  go_wp2_with fail
  exact bodyPost_ret (v := .tuple #[.agg #[.int .i64 qn, .int .i64 qd], .bool true, .int .i64 0]) (by simp [results, Tryz.results9, go_sem, r0, r1]) rfl ⟨rfl, onF (newF _ _) (newF _ _)⟩
set_option maxRecDepth 100000 in
set_option maxHeartbeats 4000000 in
theorem rv_fix (t : List Nd) (b o cap : Nat) (p : Nat) (hp : p < t.length) (hcap : t.length ≤ cap) (hl : t.length ≤ 1000) (e : opA t p = 2) (day : Int) (lv : Value) {l : List Fct} (hll : l.length ≤ 1000) (w : World) (hN : NdA w b o t) (hL : SlFct w lv l) :
    Calls Tryz.prog 9 #[.slice (some ⟨b, o, none⟩) t.length cap, .int .i64 (p : Nat), .int .i64 day, lv] w fun e w' => e = .returned (.tuple #[.agg #[.int .i64 (gtL l (t.getD p default).a day).1, .int .i64 (gtL l (t.getD p default).a day).2.1], .bool (gtL l (t.getD p default).a day).2.2, .int .i64 0]) ∧ Below w.heap.size w w' := by
  have HN0 := Lib.hid (newF w (.cells #[.int .i64 0, .int .i64 0] 29))
  obtain ⟨k0, k1, k2, k3, k4⟩ := (hN.keep HN0.out) p hp
  have hop : (t.getD p default).op = 2 := e
  rw [hop] at k0
  have p0 : (0 : Int) ≤ (p : Int) := by omega
  have p1 : (p : Int) < (t.length : Int) := by omega
  generalize t.getD p default = nd at *
  obtain ⟨q0, qa, qb, qn, qd⟩ := nd
  dsimp only at k0 k1 k2 k3 k4 ⊢
  have HS := Lib.hid (RvS.new w 2 qa qb qn qd)
  obtain ⟨va, vn, vc, rfl⟩ : ∃ a n c, lv = .slice a n c := by
    rcases hL with ⟨_, a, c, rfl⟩ | ⟨_, b, o, c, rfl, _⟩
    · exact ⟨_, _, _, rfl⟩
    · exact ⟨_, _, _, rfl⟩
  have HG : Hid (Calls Tryz.prog 19 #[.slice va vn vc, .int .i64 qa, .int .i64 day] ((w.alloc (.cells #[.int .i64 0, .int .i64 0] 29)).alloc (.cells #[.int .i64 2, .int .i64 qa, .int .i64 qb, .int .i64 qn, .int .i64 qd] 47)) fun e w' => (∃ k d pk, e = .returned (.tuple #[.agg #[.int .i64 k, .int .i64 d, .int .i64 (gtL l qa day).1, .int .i64 (gtL l qa day).2.1, .int .i64 pk], .bool (gtL l qa day).2.2])) ∧ Below ((w.alloc (.cells #[.int .i64 0, .int .i64 0] 29)).alloc (.cells #[.int .i64 2, .int .i64 qa, .int .i64 qb, .int .i64 qn, .int .i64 qd] 47)).heap.size ((w.alloc (.cells #[.int .i64 0, .int .i64 0] 29)).alloc (.cells #[.int .i64 2, .int .i64 qa, .int .i64 qb, .int .i64 qn, .int .i64 qd] 47)) w') := Lib.hid (by
    refine (reget_any _ _ l (hL.keep (onF (newF _ _) (newF _ _))) hll qa day).mono ?_
    rintro e w' ⟨hb, h⟩
    refine ⟨?_, hb⟩
    unfold gtL
    cases hf : l.find? (isG qa day) with
    | none => rw [hf] at h; exact ⟨0, 0, 0, h⟩
    | some u => rw [hf] at h; exact ⟨u.k, u.d, u.p, h⟩)
  have n0 := HS.out.n0
  have n1 := HS.out.n1
  clear hN hop e hL
  generalize gtL l qa day = G at *
  obtain ⟨gx, gy, gi⟩ := G
  dsimp only at HG ⊢
  go_enter Tryz.func9, Tryz.ntmps9
  go_wp2_with fail
  refine HG.out.mono ?_
  rintro e w2 ⟨⟨gk, gd, gp, rfl⟩, hb2⟩
  have HS2 := Lib.hid ((HS.out.keep hb2).keep (newF w2 (.cells #[.int .i64 gk, .int .i64 gd, .int .i64 gx, .int .i64 gy, .int .i64 gp] 60)))
  have r0 := HS2.out.r0
  have r1 := HS2.out.r1
  have z0 := HS2.out.z0
  have z1 := HS2.out.z1
  clear hb2 n0 n1 HS
  go_wp2_with fail
  exact bodyPost_ret (v := .tuple #[.agg #[.int .i64 gx, .int .i64 gy], .bool gi, .int .i64 0]) (by simp [results, Tryz.results9, go_sem, r0, r1]) rfl ⟨rfl, set2Q HS2.out.bel (Nat.le_refl _)⟩

end Go.Proofs.YtfkaliammmpcfaaGreatDoor
