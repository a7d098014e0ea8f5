/-
  chattellaw07.FactsOrder: its walk.
-/
import Derived.Test.YtedjbmmegjgegaaFd
import Derived.Deep.AppendLies
import Derived.Deep.RegionHeldLaw
import Derived.Deep.RegionHeld3
namespace Go.Proofs.Ytedjbmmegjgegaa
open Go.RowKit Go.Lib Go.Maps Go.Sort Go.Shelf
set_option linter.unusedVariables false
set_option linter.unusedSimpArgs false

theorem FacM.flt {w : World} {B bf bc n : Nat} {Df Dc : DataW Unit} (h : FacM w B bf bc n Df Dc) : B < w.heap.size ∧ bf < w.heap.size ∧ bc < w.heap.size := ⟨h.blt, h.hf.lt, h.hc.lt⟩
/-- Facts apart from a map that grows. -/
theorem FacM.apart {w w' : World} {B bf bc n : Nat} {Df Dc : DataW Unit} (h : FacM w B bf bc n Df Dc) {row : Option Nat} (hg : w.grownBy w' row) {z : Nat} (hz : B < z ∧ bf < z ∧ bc < z) (hr : ∀ j, row = some j → z ≤ j) : FacM w' B bf bc n Df Dc :=
  h.grown hg (fun e => by have := hr B e.symm; omega) (fun e => by have := hr bf e.symm; omega) (fun e => by have := hr bc e.symm; omega)
/-- Two facts, one of which is told more of what is known. -/
structure OrdS (w wx : World) (B1 f1 c1 B2 f2 c2 z : Nat) (L : List Tol) (n : Nat) : Prop where
  m1 : FacM wx B1 f1 c1 L.length (mkF L) (mkC L)
  m2 : ∃ D, FacM wx B2 f2 c2 n D (mkC L) ∧ RelV vR D (plF L)
  bel : Below w.heap.size w wx
theorem OrdS.keep {w wx wy : World} {B1 f1 c1 B2 f2 c2 z : Nat} {L : List Tol} {n : Nat} (h : OrdS w wx B1 f1 c1 B2 f2 c2 z L n) (hb : Below wx.heap.size wx wy) : OrdS w wy B1 f1 c1 B2 f2 c2 z L n := by
  obtain ⟨D, h2, h3⟩ := h.m2
  exact ⟨h.m1.keep hb, ⟨D, h2.keep hb, h3⟩, onF h.bel hb⟩
theorem OrdS.up {w wx : World} {B1 f1 c1 B2 f2 c2 z : Nat} {L : List Tol} {n : Nat} (h : OrdS w wx B1 f1 c1 B2 f2 c2 z L n) : OrdS w wx B1 f1 c1 B2 f2 c2 z L (n + 1) := by
  obtain ⟨D, h2, h3⟩ := h.m2
  exact ⟨h.m1, ⟨D, h2.mono (by omega), h3⟩, h.bel⟩
theorem new_same {w : World} {a : Addr} {o : Obj} (h : a.block < w.heap.size) : (w.alloc o).cell? a = w.cell? a := (newF w o).cell (p := a) h
theorem set_two {w : World} {X b i : Nat} {u v : Value} (h : b ≠ X) : ((w.setCell ⟨X, 0, none⟩ u).setCell ⟨X, 1, none⟩ v).cell? ⟨b, i, none⟩ = w.cell? ⟨b, i, none⟩ := by
  rw [cell_other (fun e => h (by injection e with e _ _; exact e.symm)), cell_other (fun e => h (by injection e with e _ _; exact e.symm))]
theorem zero_at {w w' : World} {ty : TypeId} (hb : Below (w.alloc (.cells #[.int .i64 0, .int .i64 0] ty)).drew.heap.size (w.alloc (.cells #[.int .i64 0, .int .i64 0] ty)).drew w') :
    w'.cell? ⟨w.heap.size, 0, none⟩ = some (.int .i64 0) ∧ w'.cell? ⟨w.heap.size, 1, none⟩ = some (.int .i64 0) ∧ w'.frozen? ⟨w.heap.size, 0, none⟩ = false ∧ w'.frozen? ⟨w.heap.size, 1, none⟩ = false := by
  have hlt : w.heap.size < (w.alloc (.cells #[.int .i64 0, .int .i64 0] ty)).drew.heap.size := by show _ < (w.alloc (.cells #[.int .i64 0, .int .i64 0] ty)).heap.size; simp
  refine ⟨(World.cell?_of_block (hb.block _ hlt)).trans ?_, (World.cell?_of_block (hb.block _ hlt)).trans ?_, (World.frozen?_of_block (hb.block _ hlt)).trans ?_, (World.frozen?_of_block (hb.block _ hlt)).trans ?_⟩
  · show (w.alloc _).cell? _ = _
    rw [World.cell?_alloc_at _ _ _ _ rfl]; rfl
  · show (w.alloc _).cell? _ = _
    rw [World.cell?_alloc_at _ _ _ _ rfl]; rfl
  · show (w.alloc _).frozen? _ = _
    simp
  · show (w.alloc _).frozen? _ = _
    simp
/-- A fixing that is known is told again. -/
theorem told_again2 {l : List Fct} (hN : ∀ t ∈ l, nR t) {t : Tol} (hc : t.c = false) (hk : I64 t.k) (hd : I64 t.d) (hg : (gtL l t.k t.d).2.2 = true) (h1 : (gtL l t.k t.d).1 = t.x) (h2 : (gtL l t.k t.d).2.1 = t.y) {D' : DataW Unit} (h' : RelV vR D' l) : RelV vR (tolF t D') l := by
  unfold tolF
  rw [if_neg (by rw [hc]; decide)]
  split
  · rcases gtL_cases l t.k t.d with ⟨u, hu, e1, e2, e⟩ | ⟨_, e⟩
    · rw [e] at h1 h2
      have hp := hN u hu
      have hx : (⟨t.k, t.d, t.x, t.y, 0⟩ : Fct) ∈ l := by
        have : u = ⟨t.k, t.d, t.x, t.y, 0⟩ := by
          obtain ⟨a, b, c, d, p⟩ := u
          unfold nR at hp
          dsimp only at *
          rw [e1, e2, h1, h2, hp]
        rw [← this]; exact hu
      have := h'.put ⟨t.k, t.d, t.x, t.y, 0⟩ hk hd
      rw [put_there h'.srt hx] at this
      exact this
    · rw [e] at hg; cases hg
  · exact h'
theorem OwnL.two (w : World) (base : Nat) (s t : Tol) (hb : base ≤ w.heap.size) : OwnL (w.alloc (.cells #[.bool s.c, .int .i64 s.k, .int .i64 s.d, .int .i64 s.x, .int .i64 s.y, .int .i64 s.p, .bool t.c, .int .i64 t.k, .int .i64 t.d, .int .i64 t.x, .int .i64 t.y, .int .i64 t.p] 31)) base (.slice (some ⟨w.heap.size, 0, none⟩) 2 2) [s, t] :=
  World.ownsRow_lit w #[.bool s.c, .int .i64 s.k, .int .i64 s.d, .int .i64 s.x, .int .i64 s.y, .int .i64 s.p, .bool t.c, .int .i64 t.k, .int .i64 t.d, .int .i64 t.x, .int .i64 t.y, .int .i64 t.p] 2 hb (by unfold maxLen; omega) rfl
set_option maxRecDepth 100000 in
set_option maxHeartbeats 0 in
theorem forder_walk (w : World) (v : Value) (L : List Tol) (h : SlTol w v L) (hok : ∀ j, j < L.length → (L.getD j default).Ok) (a b : Int) (ha : I64 a) (hb : I64 b) :
    Calls Try.prog 5 #[v, .agg #[.int .i64 a, .int .i64 b]] w fun e w' => e = .returned (.bool true) ∧ Below w.heap.size w w' := by
  have HAw := Lib.hid (fun w' : World => awake7_any w')
  obtain ⟨va, vc, rfl⟩ : ∃ a c, v = .slice a L.length c := by
    rcases h with ⟨rfl, a, c, rfl⟩ | ⟨_, b, o, c, rfl, _⟩
    · exact ⟨a, c, rfl⟩
    · exact ⟨_, _, rfl⟩
  have HN0 := Lib.hid (newF w (.cells #[.int .i64 a, .int .i64 b] 58))
  by_cases a1 : 40 < L.length
  · have i1 : (40 : Int) < (L.length : Int) := by omega
    clear h hok a1 ha hb
    go_enter Try.func5, Try.ntmps5
    go_wp2_with fail
    refine (HAw.out _).mono ?_
    rintro e w2 ⟨rfl, hb2⟩
    have HB2 := Lib.hid (onF HN0.out hb2)
    clear hb2
    go_wp2_with fail
    go_ret
    exact ⟨rfl, HB2.out⟩
  have i1 : ¬ (40 : Int) < (L.length : Int) := by omega
  have HMd := Lib.hid (fun (w' : World) (hs : SlTol w' (.slice va L.length vc) L) => made_any w' _ L hs hok)
  have HSl := Lib.hid (h.keep HN0.out)
  have HOk := Lib.hid hok
  have HL := Lib.hid a1
  have HAB := Lib.hid (And.intro ha hb)
  have t0 : (w.alloc (.cells #[.int .i64 a, .int .i64 b] 58)).cell? ⟨w.heap.size, 0, none⟩ = some (.int .i64 a) := by rw [World.cell?_alloc_at _ _ _ _ rfl]; rfl
  have t1 : (w.alloc (.cells #[.int .i64 a, .int .i64 b] 58)).cell? ⟨w.heap.size, 1, none⟩ = some (.int .i64 b) := by rw [World.cell?_alloc_at _ _ _ _ rfl]; rfl
  have HT := Lib.hid (And.intro t0 t1)
  clear h hok a1 ha hb t0 t1
  go_enter Try.func5, Try.ntmps5
  go_wp2_with fail
  generalize w.alloc (.cells #[.int .i64 a, .int .i64 b] 58) = w0 at *
  refine (HMd.out _ HSl.out).mono ?_
  rintro e w1 ⟨B1, f1, c1, rfl, hm, hB, hbf, hbc, hb1⟩
  have HM1 := Lib.hid hm
  have HB1 := Lib.hid hb1
  have HSl1 := Lib.hid (HSl.out.keep hb1)
  clear hm hB hbf hbc hb1
  go_wp2_with fail
  refine (HMd.out _ HSl1.out).mono ?_
  rintro e w2 ⟨B2, f2, c2, rfl, hm, hB, hbf, hbc, hb2⟩
  have HM2 := Lib.hid hm
  have HZ := Lib.hid (And.intro HM1.out.flt (And.intro hB (And.intro hbf hbc)))
  have HB2 := Lib.hid (onF HB1.out hb2)
  have HB12 := Lib.hid hb2
  have HO : Hid (OrdS w w2 B1 f1 c1 B2 f2 c2 w1.heap.size L L.length) := Lib.hid ⟨HM1.out.keep hb2, ⟨_, hm, by have := rel_made L L.length (Nat.le_refl _) HOk.out; rw [List.take_length] at this; exact this.1⟩, onF HN0.out HB2.out⟩
  have HSl2 := Lib.hid (HSl1.out.keep hb2)
  have hrel := rel_made L L.length (Nat.le_refl _) HOk.out
  rw [List.take_length] at hrel
  have HRel := Lib.hid hrel.1
  have HRelC := Lib.hid hrel.2.1
  clear hrel
  clear hm hB hbf hbc hb2 HM1 HM2
  go_wp2_with fail
  go_loopw [7] (fun vi wx => ∃ i : Nat, i ≤ L.length ∧ vi = .int .i64 (i : Nat) ∧ OrdS w wx B1 f1 c1 B2 f2 c2 w1.heap.size L (L.length + i) ∧ Below w1.heap.size w1 wx) (fun vi _ => L.length - (RowKit.intOf vi).toNat)
  case atStart => exact ⟨0, Nat.zero_le _, rfl, HO.out, HB12.out⟩
  case round =>
    obtain ⟨i, hi, rfl, hO, hb⟩ := hrel
    have HOr := Lib.hid hO
    have HBr := Lib.hid hb
    clear hO hb HO HB12
    by_cases hlt : i < L.length
    · have p0 : (0 : Int) ≤ (i : Int) := by omega
      have p1 : (i : Int) < (L.length : Int) := by omega
      have hok := HOk.out i hlt
      obtain ⟨bb, o, cap, hv, hc1, hc2, hT⟩ : ∃ b o cap, Value.slice va L.length vc = .slice (some ⟨b, o, none⟩) L.length cap ∧ L.length ≤ cap ∧ cap ≤ 9223372036854775807 ∧ ∀ j, j < L.length → TolC w1 b (o + j * 6) (L.getD j default) := by
        rcases HSl1.out with ⟨e, _⟩ | ⟨_, b, o, cap, h1, h2, h3, h4⟩
        · rw [e] at hlt; exact absurd hlt (Nat.not_lt_zero _)
        · exact ⟨b, o, cap, h1, h2, h3, h4⟩
      injection hv with hv1 _ hv3
      subst hv1 hv3
      have HTi := Lib.hid ((hT i hlt).keep HBr.out)
      have HLt := Lib.hid hlt
      have HFx := Lib.hid (fun (w' : World) (hb : Below wr.heap.size wr w') => fixing_l w' (HOr.out.m1.keep hb) HRel.out (L.getD i default).k (L.getD i default).d hok.1 hok.2.1)
      have HOkI := Lib.hid hok
      generalize L.getD i default = t at *
      obtain ⟨k0, k1, k2, k3, k4, k5⟩ := HTi.out
      have HTag := Lib.hid (fun (hg : (gtL (plF L) t.k t.d).2.2 = true) (hc : t.c = false) (h1 : (gtL (plF L) t.k t.d).1 = t.x) (h2 : (gtL (plF L) t.k t.d).2.1 = t.y) (D' : DataW Unit) (h' : RelV vR D' (plF L)) => told_again2 (l := plF L) (plF_n L [] (fun t h => by cases h)) hc HOkI.out.1 HOkI.out.2.1 hg h1 h2 h')
      have HTl := Lib.hid (fun (w' : World) (n : Nat) (D : DataW Unit) (h : FacM w' B2 f2 c2 n D (mkC L)) (hn : n < maxLen) => tell_any w' h hn t HOkI.out)
      obtain ⟨tc, tk, td, tx, ty, tp⟩ := t
      unfold tolV at HTl
      dsimp only at k0 k1 k2 k3 k4 k5 HFx HTag HTl
      generalize gtL (plF L) tk td = G at *
      obtain ⟨gx, gy, gi⟩ := G
      dsimp only at HFx HTag
      clear hlt hT hok
      go_upto_region 10 with fail
      go_cut [8, 9] (fun u v wx => ∃ X, u = .pointer (some ⟨X, 0, none⟩) ∧ v = .bool gi ∧ wx.cell? ⟨X, 0, none⟩ = some (.int .i64 gx) ∧ wx.cell? ⟨X, 1, none⟩ = some (.int .i64 gy) ∧ Below wr.heap.size wr wx)
      case first => as_aux_lemma =>
        have b0 : Below wr.heap.size wr wr.drew := Below.drew (Below.refl _ _)
        have b1 : ∀ o, Below wr.heap.size wr (wr.alloc o).drew := fun o => Below.drew (newF wr o)
        have kd1 : wr.drew.cell? ⟨bb, o + i * 6 + 1, none⟩ = some (.int .i64 tk) := k1
        have kd2 : wr.drew.cell? ⟨bb, o + i * 6 + 2, none⟩ = some (.int .i64 td) := k2
        have ka1 : ∀ x, (wr.alloc x).drew.cell? ⟨bb, o + i * 6 + 1, none⟩ = some (.int .i64 tk) := fun x => keepF (Below.drew (newF wr x)) k1
        have ka2 : ∀ x, (wr.alloc x).drew.cell? ⟨bb, o + i * 6 + 2, none⟩ = some (.int .i64 td) := fun x => keepF (Below.drew (newF wr x)) k2
        have HBb := Lib.hid (ltF k1)
        clear k1 k2
        go_region_held3 (fun w' => w'.cell? ⟨bb, o + i * 6 + 1, none⟩ = some (.int .i64 tk) ∧ w'.cell? ⟨bb, o + i * 6 + 2, none⟩ = some (.int .i64 td))
          (first | (with_reducible exact ⟨kd1, kd2⟩) | (with_reducible exact ⟨ka1 _, ka2 _⟩) | (with_reducible exact ⟨k1, k2⟩) | (with_reducible exact ⟨(new_same (ltF k1)).trans k1, (new_same (ltF k2)).trans k2⟩) | (with_reducible exact ⟨(set_two (Nat.ne_of_lt HBb.out)).trans k1, (set_two (Nat.ne_of_lt HBb.out)).trans k2⟩))
          (first | (go_at_call 17; (first | (with_reducible refine (HFx.out _ b0).mono ?_) | (with_reducible refine (HFx.out _ (b1 _)).mono ?_)); rintro e w3 ⟨rfl, hb3⟩; (first | (have HB3 : Hid (Below wr.heap.size wr w3) := Lib.hid (onF b0 hb3)) | (have HB3 : Hid (Below wr.heap.size wr w3) := Lib.hid (onF (b1 _) hb3); obtain ⟨v0, v1, z0, z1⟩ := zero_at hb3)); clear hb3; obtain ⟨k0, k1, k2, k3, k4, k5⟩ := HTi.out.keep HB3.out))
        all_goals go_wp2
        all_goals go_meet
        · exact ⟨_, rfl, rfl, by rw [World.cell?_alloc_at _ _ _ _ rfl]; rfl, by rw [World.cell?_alloc_at _ _ _ _ rfl]; rfl, onF HB3.out (newF _ _)⟩
        · exact ⟨_, rfl, rfl, by rw [cell_other (fun e => by cases e), cell_same v0], by rw [cell_same ((cell_other (fun e => by cases e)).trans v1)], Below.setCell (Below.setCell HB3.out (Nat.le_refl _) _) (Nat.le_refl _) _⟩
      case rest =>
        obtain ⟨X, rfl, rfl, v0, v1, hbc⟩ := hcut
        have HOc := Lib.hid (HOr.out.keep hbc)
        have HBc := Lib.hid (onF HBr.out hbc)
        have HNo : ∀ q, Hid (OrdS w (wc.drewN q) B1 f1 c1 B2 f2 c2 w1.heap.size L (L.length + (i + 1)) ∧ Below w1.heap.size w1 (wc.drewN q)) := fun q => Lib.hid ⟨(HOc.out.keep (below_drewM _ _)).up, onF HBc.out (below_drewM _ _)⟩
        clear k0 k1 k2 k3 k4 k5
        obtain ⟨k0, k1, k2, k3, k4, k5⟩ := HTi.out.keep hbc
        have HBx := fun q => Lib.hid (onF hbc (below_drewM wc q))
        clear hbc HFx HBr
        cases gi with
        | false =>
          clear HTag HTl
          go_wp2_with fail
          go_quiet (fail)
          go_wp2_with fail
          go_roundw
          case rel => exact ⟨i + 1, HLt.out, by go_num, (HNo nq).out.1, (HNo nq).out.2⟩
          case measure => have := HLt.out; simp [RowKit.intOf]; omega
        | true =>
          cases tc with
          | true =>
            clear HTag HTl
            go_wp2_with fail
            go_quiet (fail)
            go_wp2_with fail
            go_roundw
            case rel => exact ⟨i + 1, HLt.out, by go_num, (HNo nq).out.1, (HNo nq).out.2⟩
            case measure => have := HLt.out; simp [RowKit.intOf]; omega
          | false =>
            by_cases q1 : gx = tx
            · by_cases q2 : gy = ty
              · have q2' : (gy == ty) = true := beq_iff_eq.2 q2
                have q1' : (gx == tx) = true := beq_iff_eq.2 q1
                go_wp2_with fail
                go_quiet (fail)
                obtain ⟨D, hm2, hr2⟩ := (HOc.out.keep (below_drewM _ nq)).m2
                have HTw := Lib.hid (HTl.out _ _ D hm2 (by have := HL.out; have := HLt.out; unfold maxLen; omega))
                have HRl := Lib.hid (HTag.out (by first | trivial | rfl) (by first | trivial | rfl) (by first | trivial | assumption) (by first | trivial | assumption) D hr2)
                have HOd := Lib.hid ((HOc.out.keep (below_drewM _ nq)).m1)
                have HBd := Lib.hid ((HNo nq).out.2)
                have HBe := Lib.hid ((HNo nq).out.1.bel)
                clear hm2 hr2 HTl HTag HNo HOc HBc HOr q1 q2 q1' q2'
                obtain ⟨k0, k1, k2, k3, k4, k5⟩ := HTi.out.keep (HBx nq).out
                go_wp2_with fail
                refine HTw.out.mono ?_
                rintro e w6 ⟨rfl, row, hm, hg, hrow⟩
                have hj : ∀ j, row = some j → w1.heap.size ≤ j := fun j hj => by rcases hrow with h | h <;> (rw [h] at hj; cases hj); exact HZ.out.2.2.1; exact HZ.out.2.2.2
                have hw1 : w.heap.size ≤ w1.heap.size := Nat.le_trans HN0.out.size HB1.out.size
                have HO6 : Hid (OrdS w w6 B1 f1 c1 B2 f2 c2 w1.heap.size L (L.length + (i + 1))) := Lib.hid ⟨HOd.out.apart hg HZ.out.1 hj, ⟨_, hm, HRl.out⟩, HBe.out.grown hg HBe.out.size (fun j h => Nat.le_trans hw1 (hj j h))⟩
                have HB6 : Hid (Below w1.heap.size w1 w6) := Lib.hid (HBd.out.grown hg HBd.out.size hj)
                clear hm hg hrow hj hw1 HTw k0 k1 k2 k3 k4 k5
                go_wp2_with fail
                go_roundw
                case rel => exact ⟨i + 1, HLt.out, by go_num, HO6.out, HB6.out⟩
                case measure => have := HLt.out; simp [RowKit.intOf]; omega
              · have q2' : (gy == ty) = false := beq_false_of_ne q2
                have q1' : (gx == tx) = true := beq_iff_eq.2 q1
                clear HTag HTl q1 q2
                go_wp2_with fail
                go_quiet (fail)
                go_wp2_with fail
                go_roundw
                case rel => exact ⟨i + 1, HLt.out, by go_num, (HNo nq).out.1, (HNo nq).out.2⟩
                case measure => have := HLt.out; simp [RowKit.intOf]; omega
            · have q1' : (gx == tx) = false := beq_false_of_ne q1
              clear HTag HTl q1
              go_wp2_with fail
              go_quiet (fail)
              go_wp2_with fail
              go_roundw
              case rel => exact ⟨i + 1, HLt.out, by go_num, (HNo nq).out.1, (HNo nq).out.2⟩
              case measure => have := HLt.out; simp [RowKit.intOf]; omega
    · have hie : i = L.length := by omega
      subst hie
      have p1 : ¬ (L.length : Int) < (L.length : Int) := by omega
      obtain ⟨D, hm2, hr2⟩ := HOr.out.m2
      have HSm := Lib.hid (same_any wr HOr.out.m1 hm2 (by have := HL.out; omega) (by have := HL.out; omega) HRel.out hr2 HRelC.out HRelC.out (plF_n L [] (fun t h => by cases h)) (plC_n L [] (fun t h => by cases h)))
      have HMf := Lib.hid HOr.out.m1
      have HBe := Lib.hid HOr.out.bel
      have HSlr := Lib.hid (HSl1.out.keep HBr.out)
      have HTr := Lib.hid (And.intro (keepF (onF HB1.out HBr.out) HT.out.1) (keepF (onF HB1.out HBr.out) HT.out.2))
      clear hm2 hr2 HOr HBr HT HSl HSl1 HSl2 HZ HB2 HB1 hlt hi
      go_wp2_with fail
      refine HSm.out.mono ?_
      rintro e w3 ⟨rfl, hb3⟩
      have HM3 := Lib.hid (HMf.out.keep hb3)
      have HB3 := Lib.hid (onF HBe.out hb3)
      have HS3 := Lib.hid (HSlr.out.keep hb3)
      have t0 := keepF hb3 HTr.out.1
      have t1 := keepF hb3 HTr.out.2
      clear hb3 HMf HBe HSlr HTr HSm
      go_wp2_with fail
      clear t0 t1
      go_cut [139] (fun r wx => ∃ s : Bool, r = .bool s ∧ (s = false → ∃ n : Nat, a = (n : Int) ∧ b = (n : Int) + 1 ∧ n + 1 < L.length ∧ ¬ ((L.getD n default).c = (L.getD (n + 1) default).c ∧ (L.getD n default).k = (L.getD (n + 1) default).k ∧ (L.getD n default).d = (L.getD (n + 1) default).d)) ∧ ∃ q, wx = w3.drewN q)
      case first => as_aux_lemma =>
        by_cases c1 : a < 0
        · go_quiet (fail)
          go_wp2_with fail
          go_meet
          exact ⟨true, rfl, fun h => (by cases h), nq, rfl⟩
        by_cases c2 : (L.length : Int) ≤ a
        · go_quiet (fail)
          go_wp2_with fail
          go_meet
          exact ⟨true, rfl, fun h => (by cases h), nq, rfl⟩
        obtain ⟨n, rfl⟩ : ∃ n : Nat, a = (n : Int) := ⟨a.toNat, by omega⟩
        have c3 : (n : Int) + 1 ≤ 100 := by omega
        by_cases c4 : b = (n : Int) + 1
        · subst c4
          by_cases c5 : (L.length : Int) ≤ (n : Int) + 1
          · go_quiet (fail)
            go_wp2_with fail
            go_meet
            exact ⟨true, rfl, fun h => (by cases h), nq, rfl⟩
          · have hn1 : n + 1 < L.length := by omega
            have hn0 : n < L.length := by omega
            have e0 : ((n : Int) + 1 == (n : Int) + 1) = true := beq_self_eq_true _
            have e1 : ((n : Int) + 1 != (n : Int) + 1) = false := by rw [bne, e0]; rfl
            obtain ⟨bb, o, cap, hv, _, _, hT⟩ : ∃ b o cap, Value.slice va L.length vc = .slice (some ⟨b, o, none⟩) L.length cap ∧ L.length ≤ cap ∧ cap ≤ 9223372036854775807 ∧ ∀ j, j < L.length → TolC w3 b (o + j * 6) (L.getD j default) := by
              rcases HS3.out with ⟨e, _⟩ | ⟨_, b, o, cap, h1, h2, h3, h4⟩
              · rw [e] at hn1; exact absurd hn1 (Nat.not_lt_zero _)
              · exact ⟨b, o, cap, h1, h2, h3, h4⟩
            injection hv with hv1 _ hv3
            subst hv1 hv3
            obtain ⟨k0, k1, k2, _, _, _⟩ := hT n hn0
            obtain ⟨m0, m1, m2, _, _, _⟩ := hT (n + 1) hn1
            obtain ⟨n1, hn1e⟩ : ∃ n1 : Nat, n1 = n + 1 := ⟨_, rfl⟩
            have hcast : (n : Int) + 1 = (n1 : Int) := by omega
            rw [show o + (n + 1) * 6 = o + n1 * 6 by rw [hn1e]] at m0 m1 m2
            have HN1 := Lib.hid hn1
            have p0 : (0 : Int) ≤ (n : Int) := by omega
            have p1 : (n : Int) < (L.length : Int) := by omega
            have p2 : (0 : Int) ≤ (n1 : Int) := by omega
            have p3 : (n1 : Int) < (L.length : Int) := by omega
            have hwr : IntKind.i64.wrap ((n : Int) + 1) = (n1 : Int) := (IntWalk.i64_in _ (by omega)).trans hcast
            have e2 : ((n1 : Int) != (n1 : Int)) = false := by rw [bne, beq_self_eq_true]; rfl
            have g1 : decide ((n : Int) < 0) = false := decide_eq_false (by omega)
            have g2 : decide ((L.length : Int) ≤ (n : Int)) = false := decide_eq_false (by omega)
            have g5 : decide ((L.length : Int) ≤ (n1 : Int)) = false := decide_eq_false (by omega)
            have g2n : ¬ L.length ≤ n := by omega
            have g2d : decide (L.length ≤ n) = false := decide_eq_false g2n
            have g5n : ¬ L.length ≤ n1 := by omega
            have g5d : decide (L.length ≤ n1) = false := decide_eq_false g5n
            have HCa := Lib.hid hcast
            rw [hcast]
            clear e0 e1 hcast
            clear c1 c2 c5
            obtain ⟨s, hs⟩ : ∃ s, s = L.getD n default := ⟨_, rfl⟩
            obtain ⟨t, ht⟩ : ∃ t, t = L.getD (n + 1) default := ⟨_, rfl⟩
            rw [← hs] at k0 k1 k2
            rw [← ht] at m0 m1 m2
            have HSe := Lib.hid (And.intro hs ht)
            clear hT hn1e hs ht
            by_cases d1 : s.c = t.c
            · have d1' : (s.c == t.c) = true := by rw [d1]; exact beq_self_eq_true _
              have d1'' : decide (s.c = t.c) = true := decide_eq_true d1
              by_cases d2 : s.k = t.k
              · have d2' : (s.k == t.k) = true := beq_iff_eq.2 d2
                have d2'' : decide (s.k = t.k) = true := decide_eq_true d2
                by_cases d3 : s.d = t.d
                · have d3' : (s.d == t.d) = true := beq_iff_eq.2 d3
                  have d3'' : decide (s.d = t.d) = true := decide_eq_true d3
                  clear d1 d2 d3
                  go_quiet (fail)
                  go_wp2_with fail
                  rw [← HCa.out]
                  go_meet
                  exact ⟨true, rfl, fun h => (by cases h), nq, rfl⟩
                · have d3' : (s.d == t.d) = false := beq_false_of_ne d3
                  have d3'' : decide (s.d = t.d) = false := decide_eq_false d3
                  have D := Lib.hid d3
                  clear d1 d2 d3
                  go_quiet (fail)
                  go_wp2_with fail
                  rw [← HCa.out]
                  go_meet
                  exact ⟨false, rfl, fun _ => ⟨n, rfl, rfl, HN1.out, fun h => D.out (by rw [HSe.out.1, HSe.out.2]; exact h.2.2)⟩, nq, rfl⟩
              · have d2' : (s.k == t.k) = false := beq_false_of_ne d2
                have d2'' : decide (s.k = t.k) = false := decide_eq_false d2
                have D := Lib.hid d2
                clear d1 d2
                go_quiet (fail)
                go_wp2_with fail
                rw [← HCa.out]
                go_meet
                exact ⟨false, rfl, fun _ => ⟨n, rfl, rfl, HN1.out, fun h => D.out (by rw [HSe.out.1, HSe.out.2]; exact h.2.1)⟩, nq, rfl⟩
            · have d1' : (s.c == t.c) = false := beq_false_of_ne d1
              have d1'' : decide (s.c = t.c) = false := decide_eq_false d1
              have D := Lib.hid d1
              clear d1
              go_quiet (fail)
              go_wp2_with fail
              rw [← HCa.out]
              go_meet
              exact ⟨false, rfl, fun _ => ⟨n, rfl, rfl, HN1.out, fun h => D.out (by rw [HSe.out.1, HSe.out.2]; exact h.1)⟩, nq, rfl⟩
        · have c4' : (b == (n : Int) + 1) = false := beq_false_of_ne c4
          have c4'' : (b != (n : Int) + 1) = true := bne_iff_ne.2 c4
          clear c4
          go_quiet (fail)
          go_wp2_with fail
          go_meet
          exact ⟨true, rfl, fun h => (by cases h), nq, rfl⟩
      case rest =>
        obtain ⟨s, rfl, hs, q, rfl⟩ := hcut
        have HB4 := Lib.hid (onF HB3.out (below_drewM w3 q))
        cases s with
        | true =>
          clear hs
          go_wp2_with fail
          refine (HAw.out _).mono ?_
          rintro e w5 ⟨rfl, hb5⟩
          have HB5 := Lib.hid (onF HB4.out hb5)
          clear hb5
          go_wp2_with fail
          go_ret
          exact ⟨rfl, HB5.out⟩
        | false =>
          obtain ⟨n, rfl, rfl, hn1, hne⟩ := hs rfl
          have HS4 := Lib.hid (HS3.out.keep (below_drewM w3 q))
          have HM4 := Lib.hid (HM3.out.keep (below_drewM w3 q))
          clear hs HS3 HM3 HB3
          generalize w3.drewN q = w4 at *
          have hn0 : n < L.length := by omega
          obtain ⟨bb, o, cap, hv, hc1, hc2, hT⟩ : ∃ b o cap, Value.slice va L.length vc = .slice (some ⟨b, o, none⟩) L.length cap ∧ L.length ≤ cap ∧ cap ≤ 9223372036854775807 ∧ ∀ j, j < L.length → TolC w4 b (o + j * 6) (L.getD j default) := by
            rcases HS4.out with ⟨e, _⟩ | ⟨_, b, o, cap, h1, h2, h3, h4⟩
            · rw [e] at hn1; exact absurd hn1 (Nat.not_lt_zero _)
            · exact ⟨b, o, cap, h1, h2, h3, h4⟩
          injection hv with hv1 _ hv3
          subst hv1 hv3
          have HT4 := Lib.hid hT
          have p0 : (0 : Int) ≤ (n : Int) := by omega
          have p1 : (n : Int) < (L.length : Int) := by omega
          have p2 : (0 : Int) ≤ (n : Int) + 1 := by omega
          have p3 : (n : Int) + 1 < (L.length : Int) := by omega
          have p5 : (n : Int) ≤ (vc : Int) := by omega
          have p6 : (L.length : Int) ≤ (vc : Int) := by omega
          have HNe := Lib.hid hne
          have HN := Lib.hid (And.intro hn0 hn1)
          clear hT hne
          have HP1 : Hid (SlTol w4 (.slice (some ⟨bb, o, none⟩) n vc) (L.take n)) := Lib.hid (by
            have hl : (L.take n).length = n := by rw [List.length_take]; omega
            by_cases h0 : n = 0
            · subst h0; exact .inl ⟨rfl, _, _, rfl⟩
            · refine .inr ⟨by omega, bb, o, vc, by rw [hl], by omega, hc2, fun j hj => ?_⟩
              have := HT4.out j (by omega)
              rw [List.getD_eq_getElem?_getD, List.getElem?_take, if_pos (by omega), ← List.getD_eq_getElem?_getD]; exact this)
          go_wp2_with (at_builtin; refine wpList_append_tol rfl (.tmp 141) (.tmp 144) rfl w4.heap.size (.slice none 0 0) [] rfl (OwnL.nil _ _) _ (L.take n) rfl HP1.out (by have := HL.out; simp; omega) (Nat.le_refl _) ?_; intro v5 w5 ho5 hg5 hat5)
          rw [List.nil_append] at ho5
          have HB5 := Lib.hid (below_tol (Below.refl _ _) (OwnL.nil w4 w4.heap.size) (Nat.le_refl _) (Nat.le_refl _) hg5)
          have HO5 := Lib.hid ho5
          clear ho5 hg5 hat5 HP1
          obtain ⟨k0, k1, k2, k3, k4, k5⟩ := (HT4.out n HN.out.1).keep HB5.out
          obtain ⟨m0, m1, m2, m3, m4, m5⟩ := (HT4.out (n + 1) HN.out.2).keep HB5.out
          obtain ⟨r0, r1, r2, r3, r4, r5⟩ := (HT4.out (n + 1) HN.out.2).keep HB5.out
          rw [show o + (n + 1) * 6 = o + n * 6 + 6 by omega] at r0 r1 r2 r3 r4 r5
          have HOT : Hid ((L.getD n default).Ok ∧ (L.getD (n + 1) default).Ok) := Lib.hid ⟨HOk.out n HN.out.1, HOk.out (n + 1) HN.out.2⟩
          have HDr := Lib.hid (drop_cons2 HN.out.2)
          have HTn := Lib.hid (HT4.out n HN.out.1)
          have HTm := Lib.hid (HT4.out (n + 1) HN.out.2)
          generalize L.getD n default = s at *
          generalize L.getD (n + 1) default = t at *
          go_upto_region 21 with fail
          have hl5 : (L.take n).length ≤ 40 := by have := HL.out; rw [List.length_take]; omega
          go_cut [12] (fun u wx => OwnL wx w4.heap.size u (L.take n ++ [t, s]) ∧ Below w4.heap.size w4 wx)
          case first =>
            rename_i hK1 K0 hK0 le0 J0 K2 hJ0 hK2
            clear hK1 hK0 HMd HAw HOk HRel HRelC HM4 HDr HOT HNe HS4 HAB
            obtain ⟨n1, hn1e⟩ : ∃ n1 : Nat, n1 = n + 1 := ⟨_, rfl⟩
            have hcast : (n : Int) + 1 = (n1 : Int) := by omega
            rw [hcast] at p2 p3 ⊢
            rw [← hn1e] at m0 m1 m2 m3 m4 m5 HTm
            have HCa := Lib.hid hcast
            clear hn1e hcast
            have hown := HO5.out
            unfold OwnL at hown
            obtain ⟨i0, hi0, hz0, hz1, hz2⟩ := info_parts infoTol
            have h63 : (L.take n).length + 2 ≤ maxLen := by unfold maxLen; omega
            have hby : ((L.take n).length + 2) * 48 ≤ 140737488355328 := by omega
            have hbs : w4.heap.size ≤ (w5.drew.alloc (.cells #[.bool t.c, .int .i64 t.k, .int .i64 t.d, .int .i64 t.x, .int .i64 t.y, .int .i64 t.p, .bool s.c, .int .i64 s.k, .int .i64 s.d, .int .i64 s.x, .int .i64 s.y, .int .i64 s.p] 31)).heap.size := by have := HB5.out.size; show _ ≤ (w5.alloc _).heap.size; simp; omega
            have kd : TolC w5.drew bb (o + n * 6) s := ⟨k0, k1, k2, k3, k4, k5⟩
            have md : TolC w5.drew bb (o + n1 * 6) t := ⟨m0, m1, m2, m3, m4, m5⟩
            obtain ⟨a0, a1, a2, a3, a4, a5⟩ := kd
            obtain ⟨b0, b1, b2, b3, b4, b5⟩ := md
            have na0 := fun ob => keepF (Below.drew (newF w5 ob)) k0
            have nb0 := fun ob => keepF (Below.drew (newF w5 ob)) m0
            have na1 := fun ob => keepF (Below.drew (newF w5 ob)) k1
            have nb1 := fun ob => keepF (Below.drew (newF w5 ob)) m1
            have na2 := fun ob => keepF (Below.drew (newF w5 ob)) k2
            have nb2 := fun ob => keepF (Below.drew (newF w5 ob)) m2
            have na3 := fun ob => keepF (Below.drew (newF w5 ob)) k3
            have nb3 := fun ob => keepF (Below.drew (newF w5 ob)) m3
            have na4 := fun ob => keepF (Below.drew (newF w5 ob)) k4
            have nb4 := fun ob => keepF (Below.drew (newF w5 ob)) m4
            have na5 := fun ob => keepF (Below.drew (newF w5 ob)) k5
            have nb5 := fun ob => keepF (Below.drew (newF w5 ob)) m5
            clear k0 k1 k2 k3 k4 k5 m0 m1 m2 m3 m4 m5 r0 r1 r2 r3 r4 r5
            go_region_held3 (fun w' => w'.cell? ⟨bb, o + n * 6, none⟩ = some (.bool s.c) ∧ w'.cell? ⟨bb, o + n * 6 + 1, none⟩ = some (.int .i64 s.k) ∧ w'.cell? ⟨bb, o + n * 6 + 2, none⟩ = some (.int .i64 s.d) ∧ w'.cell? ⟨bb, o + n * 6 + 3, none⟩ = some (.int .i64 s.x) ∧ w'.cell? ⟨bb, o + n * 6 + 4, none⟩ = some (.int .i64 s.y) ∧ w'.cell? ⟨bb, o + n * 6 + 5, none⟩ = some (.int .i64 s.p) ∧ w'.cell? ⟨bb, o + n1 * 6, none⟩ = some (.bool t.c) ∧ w'.cell? ⟨bb, o + n1 * 6 + 1, none⟩ = some (.int .i64 t.k) ∧ w'.cell? ⟨bb, o + n1 * 6 + 2, none⟩ = some (.int .i64 t.d) ∧ w'.cell? ⟨bb, o + n1 * 6 + 3, none⟩ = some (.int .i64 t.x) ∧ w'.cell? ⟨bb, o + n1 * 6 + 4, none⟩ = some (.int .i64 t.y) ∧ w'.cell? ⟨bb, o + n1 * 6 + 5, none⟩ = some (.int .i64 t.p))
              (first | (with_reducible exact ⟨a0, a1, a2, a3, a4, a5, b0, b1, b2, b3, b4, b5⟩) | (with_reducible exact ⟨na0 _, na1 _, na2 _, na3 _, na4 _, na5 _, nb0 _, nb1 _, nb2 _, nb3 _, nb4 _, nb5 _⟩))
              ((refine step_append_lies _ (by rfl) _ _ _ (by rfl) w4.heap.size 31 i0 _ 6 48 Try.underlying22 hi0 hz0 hz1 hz2 rfl (by omega) v5 (L.take n).length (toR (L.take n)) (by rfl) (World.ownsRow.alloc (World.ownsRow.drew hown) _) ⟨w5.heap.size, 0, none⟩ 2 2 [.bool t.c, .int .i64 t.k, .int .i64 t.d, .int .i64 t.x, .int .i64 t.y, .int .i64 t.p, .bool s.c, .int .i64 s.k, .int .i64 s.d, .int .i64 s.x, .int .i64 s.y, .int .i64 s.p] (by rfl) (by rfl) (World.news_of_block (cs := #[.bool t.c, .int .i64 t.k, .int .i64 t.d, .int .i64 t.x, .int .i64 t.y, .int .i64 t.p, .bool s.c, .int .i64 s.k, .int .i64 s.d, .int .i64 s.x, .int .i64 s.y, .int .i64 s.p]) (t := 31) (fr := (0, 0)) (heap_alloc_new w5.drew _)) (by simp [Value.oneCell']) (by omega) h63 hby hbs (w5.heap.size + 1) (by simp) ?_
                intro g cap2 w7 hown1 hgrow hat hlt2
                have HB7 := Lib.hid (below_tol (onF (Below.drew HB5.out) (newF w5.drew _)) ((HO5.out.grown (Below.drew (Below.refl _ _))).grown (newF w5.drew _)) (Nat.le_refl _) hbs hgrow)
                clear a0 a1 a2 a3 a4 a5 b0 b1 b2 b3 b4 b5
                obtain ⟨a0, a1, a2, a3, a4, a5⟩ := HTn.out.keep HB7.out
                obtain ⟨b0, b1, b2, b3, b4, b5⟩ := HTm.out.keep HB7.out))
            all_goals rw [← HCa.out]
            all_goals go_wp2_with fail
            all_goals go_meet
            all_goals refine ⟨?_, HB7.out⟩
            all_goals have e1 : (List.take n L ++ [t, s]).length = (List.take n L).length + 2 := List.length_append
            all_goals have e2 : toR (List.take n L ++ [t, s]) = toR (List.take n L) ++ [.bool t.c, .int .i64 t.k, .int .i64 t.d, .int .i64 t.x, .int .i64 t.y, .int .i64 t.p, .bool s.c, .int .i64 s.k, .int .i64 s.d, .int .i64 s.x, .int .i64 s.y, .int .i64 s.p] := toR_app _ _
            all_goals unfold OwnL
            all_goals rw [e1, e2]
            all_goals have h := hown1
            all_goals rw [List.length_take] at h ⊢
            all_goals with_reducible exact h
          case rest =>
          obtain ⟨ho7, hb7⟩ := hcut
          have HB7 := Lib.hid hb7
          have HO7 := Lib.hid ho7
          clear ho7 hb7 HB5 HO5 k0 k1 k2 k3 k4 k5 m0 m1 m2 m3 m4 m5 r0 r1 r2 r3 r4 r5
          go_upto_region 22 with fail
          have h2n : n + 1 + 1 ≤ L.length := HN.out.2
          go_cut [12] (fun u wx => OwnL wx w4.heap.size u (L.take n ++ [t, s] ++ L.drop (n + 2)) ∧ Below w4.heap.size w4 wx)
          case first => as_aux_lemma =>
            have hld : (L.drop (n + 2)).length = L.length - (n + 1 + 1) := by rw [List.length_drop]
            have hl7 : (L.take n ++ [t, s]).length ≤ 42 := by rw [List.length_append]; simp; omega
            have q1 : (n : Int) + 1 + 1 ≤ (L.length : Int) := by omega
            have q2 : (n : Int) + 1 + 1 ≤ (vc : Int) := by omega
            have q3 : (0 : Int) ≤ (n : Int) + 1 + 1 := by omega
            by_cases hq : vc = n + 1 + 1
            · subst hq
              have HP3 : Hid (SlTol wc (.slice (some ⟨bb, o, none⟩) (L.length - (n + 1 + 1)) 0) (L.drop (n + 2))) := Lib.hid (by
                have h0 : L.length = n + 1 + 1 := by omega
                have e : L.drop (n + 2) = [] := by rw [List.drop_eq_nil_iff]; omega
                rw [e, show L.length - (n + 1 + 1) = 0 by omega]
                exact .inl ⟨rfl, _, _, rfl⟩)
              go_wp2_with (at_builtin; refine wpList_append_tol rfl (.tmp 157) (.tmp 161) rfl w4.heap.size u12 _ rfl HO7.out _ (L.drop (n + 2)) rfl HP3.out (by omega) HB7.out.size ?_; intro v8 w8 ho8 hg8 hat8)
              go_meet
              exact ⟨ho8, below_tol HB7.out HO7.out (Nat.le_refl _) HB7.out.size hg8⟩
            · have HP3 : Hid (SlTol wc (.slice (some ⟨bb, o + (n + 1 + 1) * 6, none⟩) (L.length - (n + 1 + 1)) (vc - (n + 1 + 1))) (L.drop (n + 2))) := Lib.hid (by
                by_cases h0 : L.length = n + 1 + 1
                · have e : L.drop (n + 2) = [] := by rw [List.drop_eq_nil_iff]; omega
                  rw [e, show L.length - (n + 1 + 1) = 0 by omega]
                  exact .inl ⟨rfl, _, _, rfl⟩
                · refine .inr ⟨by omega, bb, _, _, by rw [hld], by omega, by omega, fun j hj => ?_⟩
                  have := (HT4.out (n + 2 + j) (by omega)).keep HB7.out
                  rw [List.getD_eq_getElem?_getD, List.getElem?_drop, ← List.getD_eq_getElem?_getD, show o + (n + 1 + 1) * 6 + j * 6 = o + (n + 2 + j) * 6 by omega]
                  exact this)
              have hq' : ¬ vc - (n + 1 + 1) = 0 := by omega
              go_wp2_with (at_builtin; refine wpList_append_tol rfl (.tmp 157) (.tmp 161) rfl w4.heap.size u12 _ rfl HO7.out _ (L.drop (n + 2)) rfl HP3.out (by omega) HB7.out.size ?_; intro v8 w8 ho8 hg8 hat8)
              go_meet
              exact ⟨ho8, below_tol HB7.out HO7.out (Nat.le_refl _) HB7.out.size hg8⟩
          case rest =>
            obtain ⟨ho8, hb8⟩ := hcut
            have hl2 : (L.take n ++ [t, s] ++ L.drop (n + 2)).length = L.length := by
              have h2 : n + 1 < L.length := HN.out.2
              rw [List.length_append, List.length_append, List.length_take, List.length_drop]; simp; omega
            have hTok : ∀ j, j < (L.take n ++ [t, s] ++ L.drop (n + 2)).length → ((L.take n ++ [t, s] ++ L.drop (n + 2)).getD j default).Ok := by
              intro j hj
              have hall : ∀ u ∈ L, u.Ok := by
                intro u hu
                obtain ⟨i, hi, rfl⟩ := List.mem_iff_getElem.1 hu
                have := HOk.out i hi
                rw [List.getD_eq_getElem?_getD, List.getElem?_eq_getElem hi] at this
                exact this
              have hm : (L.take n ++ [t, s] ++ L.drop (n + 2)).getD j default ∈ L.take n ++ [t, s] ++ L.drop (n + 2) := by
                rw [List.getD_eq_getElem?_getD, List.getElem?_eq_getElem hj]
                exact List.getElem_mem hj
              generalize (L.take n ++ [t, s] ++ L.drop (n + 2)).getD j default = u at *
              rcases List.mem_append.1 hm with hm | hm
              · rcases List.mem_append.1 hm with hm | hm
                · exact hall u (List.mem_of_mem_take hm)
                · rcases List.mem_cons.1 hm with rfl | hm
                  · exact HOT.out.2
                  · rcases List.mem_cons.1 hm with rfl | hm
                    · exact HOT.out.1
                    · cases hm
              · exact hall u (List.mem_of_mem_drop hm)
            have hpl := turn_pl (L.take n) (L.drop (n + 2)) HNe.out
            rw [← HDr.out] at hpl
            have hrT := rel_made (L.take n ++ [t, s] ++ L.drop (n + 2)) _ (Nat.le_refl _) hTok
            rw [List.take_length, hpl.1, hpl.2] at hrT
            have HRT := Lib.hid (And.intro hrT.1 hrT.2.1)
            have HMT := Lib.hid (made_any wc u12 _ ho8.sl hTok)
            have HM8 := Lib.hid (HM4.out.keep hb8)
            have HB8 := Lib.hid (onF HB4.out hb8)
            have HLT := Lib.hid hl2
            clear hpl hrT hTok ho8 hb8 HO7 HB7 HM4 HB4 HT4 HTn HTm HS4 hl2
            generalize L.take n ++ [t, s] ++ L.drop (n + 2) = T at *
            go_wp2_with fail
            refine HMT.out.mono ?_
            rintro e w9 ⟨B3, f3, c3, rfl, hm3, hB3, hf3, hc3, hb9⟩
            have HSm := Lib.hid (same_any w9 (HM8.out.keep hb9) hm3 (by have := HL.out; omega) (by have := HL.out; have := HLT.out; omega) HRel.out HRT.out.1 HRelC.out HRT.out.2 (plF_n L [] (fun t h => by cases h)) (plC_n L [] (fun t h => by cases h)))
            have HB9 := Lib.hid (onF HB8.out hb9)
            clear hm3 hB3 hf3 hc3 hb9 HMT HM8 HB8
            go_wp2_with fail
            refine HSm.out.mono ?_
            rintro e wa ⟨rfl, hba⟩
            have HBa := Lib.hid (onF HB9.out hba)
            clear hba HSm HB9
            go_wp2_with fail
            refine (HAw.out _).mono ?_
            rintro e wb ⟨rfl, hbb⟩
            have HBb := Lib.hid (onF HBa.out hbb)
            clear hbb
            go_wp2_with fail
            go_ret
            exact ⟨rfl, HBb.out⟩

end Go.Proofs.Ytedjbmmegjgegaa
