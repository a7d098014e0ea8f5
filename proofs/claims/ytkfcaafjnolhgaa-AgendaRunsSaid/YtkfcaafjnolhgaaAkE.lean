/-
  chattellaw11.AgendaRuns: its walk.
-/
import Derived.Test.YtkfcaafjnolhgaaAkD
import Derived.Deep.Cut
namespace Go.Proofs.Ytkfcaafjnolhgaa
open Go.RowKit Go.Lib Go.Maps Go.Sort Go.Shelf
set_option linter.unusedVariables false
set_option linter.unusedSimpArgs false

/-- The blocks of an agenda, and the reference's own. -/
def AvB (r a q bm : Nat) (lv : Value) (k : Nat) : Prop := k = r ∨ FpA a q bm lv k
/-- Agenda and reference, side by side. -/
structure RuS (w wr : World) (r a q bm : Nat) (lv v : Value) (L : List It) (n : Nat) : Prop where
  ag : AgV wr w.heap.size a q bm lv L n
  rf : RgV (AvB r a q bm lv) wr r v L n
  nr : ¬ FpA a q bm lv r
  rb : w.heap.size ≤ r
  bel : Below w.heap.size w wr
theorem RuS.hi {w wr : World} {r a q bm n : Nat} {lv v : Value} {L : List It} (h : RuS w wr r a q bm lv v L n) : ∀ k, AvB r a q bm lv k → k < wr.heap.size := by
  rintro k (rfl | e)
  · exact h.rf.lt
  · exact h.ag.hi k e
theorem RuS.keep {w wr wy : World} {r a q bm n : Nat} {lv v : Value} {L : List It} (h : RuS w wr r a q bm lv v L n) (hb : Below wr.heap.size wr wy) : RuS w wy r a q bm lv v L n :=
  ⟨h.ag.keep hb, h.rf.keep hb, h.nr, h.rb, onF h.bel hb⟩
/-- A row's block is there. -/
theorem RgV.blk {Av : Nat → Prop} {w : World} {r n : Nat} {v : Value} {L : List It} (h : RgV Av w r v L n) : ∀ b o m c, v = .slice (some ⟨b, o, none⟩) m c → L ≠ [] → b < w.heap.size := fun b o m c e hne => by
  rcases h.row with ⟨h0, _⟩ | ⟨_, b2, o2, c2, h1, _, _, h4⟩
  · exact absurd h0 hne
  · rw [e] at h1; injection h1 with h1 _ _; injection h1 with h1; injection h1 with h1 _ _
    have := ltF (h4 0 (List.length_pos_iff.2 hne) 0 _ (by decide) rfl)
    omega
theorem put_x (d t : Int) (L : List It) (n : Nat) : (putZ d t L n).x.d = 0 ∧ (putZ d t L n).x.tag = 0 := by
  unfold putZ; split <;> exact ⟨rfl, rfl⟩
theorem take_or (d : Int) (L : List It) (n : Nat) : ((takeZ d L n).x = zI ∧ (takeZ d L n).e = 16 ∧ (takeZ d L n).L = L ∧ (takeZ d L n).n = n ∧ ∀ x M, L = x :: M → d < x.d) ∨ (∃ x M, L = x :: M ∧ x.d ≤ d ∧ (takeZ d L n).x = x ∧ (takeZ d L n).e = 0 ∧ (takeZ d L n).L = M ∧ (takeZ d L n).n = n) := by
  unfold takeZ
  cases L with
  | nil => exact .inl ⟨rfl, rfl, rfl, rfl, fun x M h => by cases h⟩
  | cons x M =>
    dsimp only
    by_cases h : x.d ≤ d
    · rw [if_pos h]; exact .inr ⟨x, M, rfl, h, rfl, rfl, rfl, rfl⟩
    · rw [if_neg h]; exact .inl ⟨rfl, rfl, rfl, rfl, fun y M' e => by cases e; omega⟩
theorem drop_n (no : Int) (L : List It) (n : Nat) : (dropZ no L n).n = n := by
  unfold dropZ; split <;> rfl
theorem move_n (no d : Int) (L : List It) (n : Nat) : (moveZ no d L n).n = n ∧ (moveZ no d L n).x = zI := by
  unfold moveZ
  split
  · split <;> exact ⟨rfl, rfl⟩
  · exact ⟨rfl, rfl⟩
theorem RgV.imp {Av Av' : Nat → Prop} {w : World} {r n : Nat} {v : Value} {L : List It} (h : RgV Av w r v L n) (hr : Av' r) (hi : ∀ b, b < w.heap.size → Av' b → Av b) : RgV Av' w r v L n :=
  ⟨h.c0, h.c1, h.f0, h.f1, h.row, fun b o m c e hne ha => h.ne b o m c e hne (hi b (h.blk b o m c e hne) ha), hr⟩
/-- The agenda has done something: the reference stands. -/
theorem RuS.did {w wr w2 : World} {r a q bm n : Nat} {lv v : Value} {L L' : List It} {n' : Nat} (h : RuS w wr r a q bm lv v L n) (ha : Aft wr w.heap.size a q bm lv L' n' w2) : ∃ lv2, AgV w2 w.heap.size a q bm lv2 L' n' ∧ RgV (AvB r a q bm lv2) w2 r v L n ∧ ¬ FpA a q bm lv2 r ∧ Below w.heap.size w w2 := by
  obtain ⟨lv2, h1, h2, h3⟩ := ha
  refine ⟨lv2, h1, ?_, fun c => (h3 r c).elim h.nr (fun e => by have := h.rf.lt; omega), h.bel.trans (h.ag.sb (Nat.le_refl _) h2 h.bel.size)⟩
  have hr := h.rf.imp (Av' := AvB r a q bm lv2) (.inl rfl) (fun b hb c => c.imp id (fun c => (h3 b c).elim id (fun e => by omega)))
  refine hr.off h2 h.nr (fun b o m c e hne c => ?_)
  exact h.rf.ne b o m _ e hne (.inr c)
/-- With two items more. -/
def AvC (r a q bm : Nat) (lv : Value) (X k : Nat) : Prop := AvB r a q bm lv k ∨ (X ≤ k ∧ k < X + 2)
theorem set_blk {w : World} {b o c i : Nat} {v : Value} (h : c ≠ b) : (w.setCell ⟨b, o, none⟩ v).cell? ⟨c, i, none⟩ = w.cell? ⟨c, i, none⟩ := cell_other (addr_ne_block (Ne.symm h))
theorem RuS.fin {w W4 W5 W : World} {r a q bm n X : Nat} {lv2 v' : Value} {L : List It} (ha : AgV W4 w.heap.size a q bm lv2 L n) (hfx : ∀ k, FpA a q bm lv2 k → k < X) (hn : ¬ FpA a q bm lv2 r) (hb : Below w.heap.size w W4) (hrb : w.heap.size ≤ r) (hrx : r < X) (hr : RgV (AvC r a q bm lv2 X) W5 r v' L n) (ho : Off (fun k => k = r) W4 W5) (hs : Off (fun k => k = X + 1) W5 W) : RuS w W r a q bm lv2 v' L n := by
  have hr2 := hr.off hs (by omega) (fun b o m c e hne e' => hr.ne b o m c e hne (.inr (by omega)))
  have ha5 := ha.off ho (fun k hk e => hn (e ▸ hk))
  have ha2 := ha5.off hs (fun k hk e => by have := hfx k hk; omega)
  have hb5 := hb.trans (ho.below (fun k e => by rw [e]; exact hrb) hb.size)
  exact ⟨ha2, hr2.imp (.inl rfl) (fun b _ h => .inl h), hn, hrb, hb5.trans (hs.below (fun k e => by omega) hb5.size)⟩
theorem it_off {w w' : World} {Y : Nat} {a b c : Value} {F : Nat → Prop} (h : w.cell? ⟨Y, 0, none⟩ = some a ∧ w.cell? ⟨Y, 1, none⟩ = some b ∧ w.cell? ⟨Y, 2, none⟩ = some c) (ho : Off F w w') (hn : ¬ F Y) : w'.cell? ⟨Y, 0, none⟩ = some a ∧ w'.cell? ⟨Y, 1, none⟩ = some b ∧ w'.cell? ⟨Y, 2, none⟩ = some c := ⟨ho.cell h.1 hn, ho.cell h.2.1 hn, ho.cell h.2.2 hn⟩
theorem it_one {w : World} {Y : Nat} {a b c v : Value} (h : w.cell? ⟨Y, 0, none⟩ = some a ∧ w.cell? ⟨Y, 1, none⟩ = some b ∧ w.cell? ⟨Y, 2, none⟩ = some c) : (w.setCell ⟨Y, 1, none⟩ v).cell? ⟨Y, 0, none⟩ = some a ∧ (w.setCell ⟨Y, 1, none⟩ v).cell? ⟨Y, 1, none⟩ = some v ∧ (w.setCell ⟨Y, 1, none⟩ v).cell? ⟨Y, 2, none⟩ = some c := ⟨(cell_other (addr_ne_off (by decide))).trans h.1, cell_same h.2.1, (cell_other (addr_ne_off (by decide))).trans h.2.2⟩
theorem it_three {w : World} {Y : Nat} {a b c x y z : Value} (h : w.cell? ⟨Y, 0, none⟩ = some a ∧ w.cell? ⟨Y, 1, none⟩ = some b ∧ w.cell? ⟨Y, 2, none⟩ = some c) : (((w.setCell ⟨Y, 0, none⟩ x).setCell ⟨Y, 1, none⟩ y).setCell ⟨Y, 2, none⟩ z).cell? ⟨Y, 0, none⟩ = some x ∧ (((w.setCell ⟨Y, 0, none⟩ x).setCell ⟨Y, 1, none⟩ y).setCell ⟨Y, 2, none⟩ z).cell? ⟨Y, 1, none⟩ = some y ∧ (((w.setCell ⟨Y, 0, none⟩ x).setCell ⟨Y, 1, none⟩ y).setCell ⟨Y, 2, none⟩ z).cell? ⟨Y, 2, none⟩ = some z := by
  have o01 : (⟨Y, 1, none⟩ : Addr) ≠ ⟨Y, 0, none⟩ := addr_ne_off (by decide)
  have o02 : (⟨Y, 2, none⟩ : Addr) ≠ ⟨Y, 0, none⟩ := addr_ne_off (by decide)
  have o12 : (⟨Y, 2, none⟩ : Addr) ≠ ⟨Y, 1, none⟩ := addr_ne_off (by decide)
  refine ⟨?_, ?_, ?_⟩
  · rw [cell_other o02, cell_other o01]; exact cell_same h.1
  · rw [cell_other o12]; exact cell_same (by rw [cell_other (Ne.symm o01)]; exact h.2.1)
  · exact cell_same (by rw [cell_other (Ne.symm o12), cell_other (Ne.symm o02)]; exact h.2.2)
theorem off_three (w : World) (Y : Nat) (x y z : Value) : Off (fun k => k = Y) w (((w.setCell ⟨Y, 0, none⟩ x).setCell ⟨Y, 1, none⟩ y).setCell ⟨Y, 2, none⟩ z) := (Off.set w Y 0 x).both ((Off.set _ Y 1 y).both (Off.set _ Y 2 z))

theorem RuS.next {w w2 w3 : World} {r a q bm n n' : Nat} {lv2 v v' : Value} {L L' : List It} (ha : AgV w2 w.heap.size a q bm lv2 L' n') (hn : ¬ FpA a q bm lv2 r) (hb : Below w.heap.size w w2) (hrb : w.heap.size ≤ r) (hr : RgV (AvB r a q bm lv2) w3 r v' L' n') (ho : Off (fun k => k = r) w2 w3) : RuS w w3 r a q bm lv2 v' L' n' :=
  ⟨ha.off ho (fun k hk e => hn (e ▸ hk)), hr, hn, hrb, hb.trans (ho.below (fun k e => by rw [e]; exact hrb) hb.size)⟩

set_option maxRecDepth 100000 in
set_option maxHeartbeats 16000000 in
theorem runs11_walk (w : World) (v : Value) (l : List Cl) (hv : SlCl w v l) :
    Calls Try.prog 3 #[v] w fun e w' => e = .returned (.bool true) ∧ Below w.heap.size w w' := by
  obtain ⟨va, vc, rfl⟩ := hv.slice
  have HN := Lib.hid (anew_any w)
  have HAw := Lib.hid (fun w' => awake11_any w')
  have HV := Lib.hid hv
  clear hv
  by_cases hl : l.length ≤ 60
  · have nl : ¬ (60 : Int) < (l.length : Int) := by omega
    go_enter Try.func3, Try.ntmps3
    go_wp2_with fail
    refine HN.out.mono ?_
    rintro e w1 ⟨a, q, bm, rfl, hA, hb⟩
    have hb1 := newF w1 (.cells #[.slice none 0 0, .int .i64 0] 29)
    have k0 : (w1.alloc (.cells #[.slice none 0 0, .int .i64 0] 29)).cell? ⟨w1.heap.size, 0, none⟩ = some (.slice none 0 0) := (World.cell?_alloc_at _ _ _ _ rfl).trans rfl
    have k1 : (w1.alloc (.cells #[.slice none 0 0, .int .i64 0] 29)).cell? ⟨w1.heap.size, 1, none⟩ = some (.int .i64 0) := (World.cell?_alloc_at _ _ _ _ rfl).trans rfl
    have HS : Hid (RuS w (w1.alloc (.cells #[.slice none 0 0, .int .i64 0] 29)) w1.heap.size a q bm (.slice none 0 0) (.slice none 0 0) [] 0) := Lib.hid ⟨hA.keep hb1, ⟨k0, k1, World.frozen?_alloc_at _ _ _ _ rfl, World.frozen?_alloc_at _ _ _ _ rfl, .inl ⟨rfl, _, _, rfl⟩, fun _ _ _ _ _ h => absurd rfl h, .inl rfl⟩, fun c => by have := hA.hi _ c; omega, hb.size, onF hb hb1⟩
    clear hA hb HN hb1 k0 k1
    go_wp2_with fail
    generalize w1.alloc (.cells #[.slice none 0 0, .int .i64 0] 29) = W1 at *
    generalize w1.heap.size = r at *
    go_loopw [5] (fun vi wr => ∃ (i : Nat) (lv v : Value), i ≤ l.length ∧ vi = .int .i64 (i : Nat) ∧ RuS w wr r a q bm lv v (runZ (l.take i)).1 (runZ (l.take i)).2)
      (fun vi _ => l.length - (RowKit.intOf vi).toNat)
    case atStart => exact ⟨0, _, _, Nat.zero_le _, rfl, HS.out⟩
    case round =>
      obtain ⟨i, lv, v, hi, rfl, hSi⟩ := hrel
      by_cases hlt : i < l.length
      · have p0 : (0 : Int) ≤ (i : Int) := by omega
        have p1 : (i : Int) < (l.length : Int) := by omega
        obtain ⟨g, o, hva, _, hc1, hc2, k0, k1, k2⟩ := HV.out.at hlt
        subst hva
        have HK := Lib.hid (And.intro k0 (And.intro k1 k2))
        have k0 := keepF hSi.bel k0
        have k1 := keepF hSi.bel k1
        have k2 := keepF hSi.bel k2
        have hle := runZ_le (l.take i)
        rw [List.length_take] at hle
        have HDo := Lib.hid (does_any wr hSi.ag (by omega) (by omega) (l.getD i default).k (l.getD i default).d (l.getD i default).t (HV.out.2 i hlt).2.2)
        have HNx := Lib.hid (runZ_next hlt)
        have hlL : (runZ (l.take i)).1.length ≤ 60 := by omega
        have hlN : (runZ (l.take i)).2 ≤ 60 := by omega
        have HLl := Lib.hid (And.intro hlL hlN)
        have hzl := doZ_l (l.getD i default).k (l.getD i default).d (l.getD i default).t (runZ (l.take i)).1 (runZ (l.take i)).2
        have HZl := Lib.hid hzl
        have HSi := Lib.hid hSi
        have HLt := Lib.hid hlt
        have HNs := Lib.hid (And.intro hSi.ag.sr hSi.ag.nos)
        generalize (l.getD i default).k = ck at *
        generalize (l.getD i default).d = cd at *
        generalize (l.getD i default).t = ct at *
        generalize (runZ (l.take i)).1 = L at *
        generalize (runZ (l.take i)).2 = N at *
        obtain ⟨z, hz⟩ : ∃ z, z = doZ ck cd ct L N := ⟨_, rfl⟩
        rw [← hz] at HDo HNx HZl
        have HZ := Lib.hid hz
        rcases z with ⟨⟨xd, xn, xt⟩, ze, zL, zn⟩
        unfold itV at HDo
        dsimp only at HDo HNx HZl
        clear hSi hlt hle hz hzl hlL hlN
        go_wp2_with fail
        refine HDo.out.mono ?_
        rintro e w2 ⟨rfl, haft⟩
        obtain ⟨lv2, hA2, hR2, hn2, hB2⟩ := HSi.out.did haft
        obtain ⟨W3, e3, hb3, hz3, hx0, hx1, hx2⟩ : ∃ W3 : World, W3 = w2.alloc (.cells #[.int .i64 xd, .int .i64 xn, .int .i64 xt] 31) ∧ Below w2.heap.size w2 W3 ∧ W3.heap.size = w2.heap.size + 1 ∧ W3.cell? ⟨w2.heap.size, 0, none⟩ = some (.int .i64 xd) ∧ W3.cell? ⟨w2.heap.size, 1, none⟩ = some (.int .i64 xn) ∧ W3.cell? ⟨w2.heap.size, 2, none⟩ = some (.int .i64 xt) := ⟨_, rfl, newF _ _, by simp, (World.cell?_alloc_at _ _ _ _ rfl).trans rfl, (World.cell?_alloc_at _ _ _ _ rfl).trans rfl, (World.cell?_alloc_at _ _ _ _ rfl).trans rfl⟩
        obtain ⟨W4, e4, hb4, hz4, hy⟩ := one_item W3
        have HE := Lib.hid (And.intro e3 e4)
        have hb34 := onF hb3 hb4
        have HA4 := Lib.hid (hA2.keep hb34)
        have hR2c : RgV (AvC r a q bm lv2 w2.heap.size) w2 r v L N := hR2.imp (.inl (.inl rfl)) (fun b hb h => h.elim id (fun h => by omega))
        have HR4 := Lib.hid (hR2c.keep hb34)
        have HFx := Lib.hid (fun k hk => hA2.hi k hk)
        have HB4 := Lib.hid (onF hB2 hb34)
        have HN2 := Lib.hid hn2
        have HX4 := Lib.hid (And.intro (keepF hb4 hx0) (And.intro (keepF hb4 hx1) (keepF hb4 hx2)))
        have HY4 := Lib.hid hy
        have HSz := Lib.hid (show W3.heap.size = w2.heap.size + 1 ∧ W4.heap.size = w2.heap.size + 1 + 1 from ⟨hz3, by rw [hz4, hz3]⟩)
        have HRr := Lib.hid (show r < w2.heap.size from hR2.lt)
        have HAv4 : ∀ k, AvC r a q bm lv2 w2.heap.size k → k < W4.heap.size := fun k hk => by
          rcases hk with (e | e) | e
          · rw [e]; exact HR4.out.lt
          · exact HA4.out.hi k e
          · rw [hz4, hz3]; omega
        have HAvD : ∀ k, AvC r a q bm lv2 w2.heap.size k → k < W4.drew.heap.size := HAv4
        clear hR2c e3 e4 hb3 hb4 hb34 hz3 hz4 hx0 hx1 hx2 hy haft hA2 hR2 hn2 hB2 HDo k0 k1 k2
        go_upto_region 9 with fail
        rw [← HE.out.1]
        go_upto_region 10 with fail
        rw [← HE.out.2]
        generalize w2.heap.size = Xb at *
        generalize hYb : W3.heap.size = Yb at *
        clear HE hYb
        have hY0 := HY4.out 0 (by decide)
        have hY1 := HY4.out 1 (by decide)
        have hY2 := HY4.out 2 (by decide)
        have HYy := Lib.hid (And.intro hY0 (And.intro hY1 hY2))
        clear hY0 hY1 hY2
        have k0 := keepF HB4.out HK.out.1
        have k1 := keepF HB4.out HK.out.2.1
        have k2 := keepF HB4.out HK.out.2.2
        have HG := Lib.hid (ltF HK.out.1)
        have HLn : Hid (zL.length ≤ 61) := Lib.hid (by have h1 := HZl.out; have h2 := HLl.out; omega)
        go_upto_region 11 with fail
        rename_i K1 a1 K0 a0
        have hrest : ∀ (b10 t44 t45 t46 t47 t48 t49 t50 t51 t52 t53 t54 t55 t56 t57 t58 t59 t60 t61 t62 t63 t64 t65 t66 t67 t68 t69 t70 t71 t72 t73 t74 t75 t76 t77 t78 t79 t80 t81 t82 t83 t84 t85 t86 t87 t88 t89 t90 t91 t92 t93 t94 t95 t96 t97 t98 t99 t100 t101 t102 t103 t104 : Value) (WX : World) (v' : Value), RuS w WX r a q bm lv2 v' zL zn → (WX.cell? ⟨Xb, 0, none⟩ = some (.int .i64 xd) ∧ WX.cell? ⟨Xb, 1, none⟩ = some (.int .i64 xn) ∧ WX.cell? ⟨Xb, 2, none⟩ = some (.int .i64 xt)) → (WX.cell? ⟨Yb, 0, none⟩ = some (.int .i64 xd) ∧ WX.cell? ⟨Yb, 1, none⟩ = some (.int .i64 xn) ∧ WX.cell? ⟨Yb, 2, none⟩ = some (.int .i64 xt)) → K1 { tmps := #[.slice (some ⟨g, o, none⟩) l.length vc, undef, u2, .pointer (some ⟨a, 0, none⟩), .pointer (some ⟨r, 0, none⟩), .int .i64 ((i : Nat) : Int), .pointer (some ⟨Xb, 0, none⟩), .int .i64 ze, .pointer (some ⟨Yb, 0, none⟩), .int .i64 ze, b10, u11, u12, .pointer (some ⟨a, 0, none⟩), .pointer (some ⟨a, 0, none⟩), .bool false, .bool false, .slice (some ⟨g, o, none⟩) l.length vc, .int .i64 ((l.length : Nat) : Int), .bool (decide (60 < ((l.length : Nat) : Int))), .bool (decide (60 < ((l.length : Nat) : Int))), undef, undef, undef, undef, undef, .agg #[.slice none 0 0, .int .i64 0], .pointer (some ⟨r, 0, none⟩), .int .i64 ((i : Nat) : Int), .slice (some ⟨g, o, none⟩) l.length vc, .int .i64 ((l.length : Nat) : Int), .bool true, u32, u33, .tuple #[.agg #[.int .i64 xd, .int .i64 xn, .int .i64 xt], .int .i64 ze], .pointer (some ⟨a, 0, none⟩), .slice (some ⟨g, o, none⟩) l.length vc, .int .i64 ((i : Nat) : Int), .pointer (some ⟨g, o + i * 3, none⟩), .agg #[.int .i64 ck, .int .i64 cd, .int .i64 ct], .tuple #[.agg #[.int .i64 xd, .int .i64 xn, .int .i64 xt], .int .i64 ze], .agg #[.int .i64 xd, .int .i64 xn, .int .i64 xt], .int .i64 ze, .agg #[.int .i64 0, .int .i64 0, .int .i64 0], t44, t45, t46, t47, t48, t49, t50, t51, t52, t53, t54, t55, t56, t57, t58, t59, t60, t61, t62, t63, t64, t65, t66, t67, t68, t69, t70, t71, t72, t73, t74, t75, t76, t77, t78, t79, t80, t81, t82, t83, t84, t85, t86, t87, t88, t89, t90, t91, t92, t93, t94, t95, t96, t97, t98, t99, t100, t101, t102, t103, t104, u105, u106, u107, u108, u109, u110, u111, u112, u113, u114, u115, u116, u117, u118, u119, u120, u121, u122, u123, u124, u125, u126, u127, u128, u129, u130, u131, u132, u133, u134, u135, u136, u137, u138, u139, u140, u141, u142, u143, u144, u145, u146, u147, u148, u149, u150, u151, u152, u153, u154, u155, u156, u157, u158, u159, u160, u161, u162, u163, u164, u165, u166, u167, u168, u169, u170, u171, u172, u173, u174, u175, u176, u177, u178, u179, u180, undef], defers := [] } WX := by
          intro b10 t44 t45 t46 t47 t48 t49 t50 t51 t52 t53 t54 t55 t56 t57 t58 t59 t60 t61 t62 t63 t64 t65 t66 t67 t68 t69 t70 t71 t72 t73 t74 t75 t76 t77 t78 t79 t80 t81 t82 t83 t84 t85 t86 t87 t88 t89 t90 t91 t92 t93 t94 t95 t96 t97 t98 t99 t100 t101 t102 t103 t104 WX v' hs hx hy
          have HS := Lib.hid hs
          have HX := Lib.hid hx
          have HYz := Lib.hid hy
          clear hs hx hy K0 a0 k0 k1 k2
          refine a1 _ _ ?_
          have hS := HS.out
          obtain ⟨sa, sc, rfl⟩ := hS.rf.row.slice
          have hdr : Below WX.heap.size WX WX.drew := Below.drew (Below.refl _ _)
          have s0 : WX.drew.cell? ⟨r, 0, none⟩ = some _ := hS.rf.c0
          obtain ⟨x0, x1, x2⟩ := HX.out
          obtain ⟨y0, y1, y2⟩ := HYz.out
          have x0 : WX.drew.cell? ⟨Xb, 0, none⟩ = some _ := x0
          have x1 : WX.drew.cell? ⟨Xb, 1, none⟩ = some _ := x1
          have x2 : WX.drew.cell? ⟨Xb, 2, none⟩ = some _ := x2
          have y0 : WX.drew.cell? ⟨Yb, 0, none⟩ = some _ := y0
          have y1 : WX.drew.cell? ⟨Yb, 1, none⟩ = some _ := y1
          have y2 : WX.drew.cell? ⟨Yb, 2, none⟩ = some _ := y2
          have HLen := Lib.hid (alen_any WX.drew (hS.ag.keep hdr))
          have HIt := Lib.hid (items_any (hS.ag.keep hdr) (by have := HLn.out; omega))
          have HRw := Lib.hid (fun (wx : World) (hb : Below WX.drew.heap.size WX.drew wx) => hS.rf.row.keep (onF hdr hb))
          have eq0 : ∀ t : Int, (t == t) = true := fun t => beq_self_eq_true t
          have ne0 : ∀ t : Int, (t != t) = false := fun t => by simp
          clear hS hdr
          go_wp2_with fail
          go_region_held3 (fun w' => w'.cell? ⟨r, 0, none⟩ = some (.slice sa zL.length sc) ∧ w'.cell? ⟨Xb, 0, none⟩ = some (.int .i64 xd) ∧ w'.cell? ⟨Xb, 1, none⟩ = some (.int .i64 xn) ∧ w'.cell? ⟨Xb, 2, none⟩ = some (.int .i64 xt) ∧ w'.cell? ⟨Yb, 0, none⟩ = some (.int .i64 xd) ∧ w'.cell? ⟨Yb, 1, none⟩ = some (.int .i64 xn) ∧ w'.cell? ⟨Yb, 2, none⟩ = some (.int .i64 xt)) (first | (with_reducible exact ⟨s0, x0, x1, x2, y0, y1, y2⟩) | go_keep)
            (first
            | (go_at_call 16; (with_reducible refine HLen.out.mono ?_); rintro e w6 ⟨rfl, rfl⟩)
            | (go_at_call 18; (with_reducible refine HIt.out.mono ?_); rintro e w6 ⟨vs, rfl, ho, hb⟩; obtain ⟨ta, tc, rfl⟩ := ho.slice; have HI6 := Lib.hid ho; have HB6 := Lib.hid hb; have s0 := keepF hb s0; have x0 := keepF hb x0; have x1 := keepF hb x1; have x2 := keepF hb x2; have y0 := keepF hb y0; have y1 := keepF hb y1; have y2 := keepF hb y2; clear ho hb)
            | (go_at_call 17; refine (same11_any _ (show zL.length ≤ 500 from Nat.le_trans HLn.out (by decide)) (HI6.out.row (E := itL) (k := 3) itL_len) (HRw.out _ HB6.out)).mono ?_; rintro e w7 ⟨rfl, hb⟩; have HB7 := Lib.hid (onF (Below.drew (Below.refl _ WX)) (onF HB6.out hb)); have s0 := keepF hb s0; have x0 := keepF hb x0; have x1 := keepF hb x1; have x2 := keepF hb x2; have y0 := keepF hb y0; have y1 := keepF hb y1; have y2 := keepF hb y2; clear hb))
          go_wp2_with fail
          have HS7 := Lib.hid (HS.out.keep HB7.out)
          clear s0 x0 x1 x2 y0 y1 y2 HLen HIt HRw HI6 HB6 HB7 HX HYz HS
          obtain h0 | ⟨⟨ad, an, at'⟩, M', h0⟩ : zL = [] ∨ ∃ x M, zL = x :: M := by cases zL with | nil => exact .inl rfl | cons x M => exact .inr ⟨x, M, rfl⟩
          · subst h0
            have HNt := Lib.hid (anext_no w7 HS7.out.ag)
            unfold zIt at HNt
            refine HNt.out.mono ?_
            rintro e w8 ⟨rfl, hb⟩
            have hb9 := onF hb (newF w8 (.cells #[.int .i64 0, .int .i64 0, .int .i64 0] 31))
            have HS9 := Lib.hid (HS7.out.keep hb9)
            have s0 := HS9.out.rf.c0
            simp only [List.length_nil] at s0
            clear hb hb9 HNt
            go_wp2_with fail
            go_quiet (fail)
            go_wp2_with fail
            go_roundw
            case rel => exact ⟨i + 1, lv2, _, HLt.out, by go_num, by rw [HNx.out]; exact HS9.out.keep (below_drewA _ _)⟩
            case measure => have := HLt.out; simp [RowKit.intOf]; omega
          · subst h0
            have HNt := Lib.hid (anext_yes w7 HS7.out.ag)
            unfold itV at HNt
            dsimp only at HNt
            refine HNt.out.mono ?_
            rintro e w8 ⟨rfl, hb⟩
            have hb9 := onF hb (newF w8 (.cells #[.int .i64 ad, .int .i64 an, .int .i64 at'] 31))
            have HS9 := Lib.hid (HS7.out.keep hb9)
            have s0 := HS9.out.rf.c0
            obtain ⟨bb, oo, ha, _, hd1, hd2, c0, c1, c2, _⟩ := HS9.out.rf.row.cut1
            subst ha
            dsimp only at c0 c1 c2
            have hlz : (0 : Int) < (M'.length : Int) + 1 := by omega
            have hlz2 : decide ((0 : Int) < (M'.length : Int) + 1) = true := decide_eq_true hlz
            have hlz3 : decide (0 < M'.length + 1) = true := decide_eq_true (by omega)
            simp only [List.length_cons] at s0 hd1
            clear hb hb9 HNt
            go_wp2_with fail
            go_quiet (fail)
            go_wp2_with fail
            go_roundw
            case rel => exact ⟨i + 1, lv2, _, HLt.out, by go_num, by rw [HNx.out]; exact HS9.out.keep (below_drewA _ _)⟩
            case measure => have := HLt.out; simp [RowKit.intOf]; omega
        have HRest := Lib.hid hrest
        clear a1 hrest
        by_cases c0 : ck = 0
        · subst c0
          have hp : putZ cd ct L N = ⟨⟨xd, xn, xt⟩, ze, zL, zn⟩ := by have := HZ.out; unfold doZ at this; rw [if_pos rfl] at this; exact this.symm
          have hx0 := put_x cd ct L N
          rw [hp] at hx0
          obtain ⟨hx0, hx1⟩ := hx0
          dsimp only at hx0 hx1
          subst hx0 hx1
          have HPt := rput_any W4.drew (HR4.out.keep (Below.drew (Below.refl _ _))) HAvD (by have := HLl.out; omega) (by have := HLl.out; omega) cd ct
          rw [hp] at HPt
          have HPt := Lib.hid HPt
          have d1 : W4.drew.cell? ⟨g, o + i * 3 + 1, none⟩ = some (.int .i64 cd) := k1
          have d2 : W4.drew.cell? ⟨g, o + i * 3 + 2, none⟩ = some (.int .i64 ct) := k2
          have HNg := Lib.hid (show g ≠ Yb ∧ g ≠ r from by have h1 := HG.out; have h2 := HSi.out.rb; have h3 := HRr.out; have h4 := HSz.out.1; exact ⟨by omega, by omega⟩)
          have HNy := Lib.hid (show Yb ≠ r from by have h3 := HRr.out; have h4 := HSz.out.1; omega)
          clear k1 k2 hp
          go_upto_region 14 with fail
          go_region_held3 (fun w' => w'.cell? ⟨g, o + i * 3 + 1, none⟩ = some (.int .i64 cd) ∧ w'.cell? ⟨g, o + i * 3 + 2, none⟩ = some (.int .i64 ct)) (first | (with_reducible exact ⟨d1, d2⟩) | (with_reducible exact ⟨(set_blk HNg.out.1).trans d1, (set_blk HNg.out.1).trans d2⟩))
            ((go_at_call 12; (with_reducible refine HPt.out.mono ?_); rintro e w5 ⟨rfl, v', hr, ho⟩; have HR5 := Lib.hid hr; have HO5 := Lib.hid (Off.undrew ho); have d1 := ho.cell d1 HNg.out.2; have d2 := ho.cell d2 HNg.out.2; have y1 := ho.cell (w := W4.drew) HYy.out.2.1.1 HNy.out; have yf := (ho.frozen (w := W4.drew) (ltF HYy.out.2.1.1) HNy.out).trans HYy.out.2.1.2; clear hr ho))
          go_wp2_with fail
          clear d1 d2 y1 yf
          have hSz := HSz.out
          have hRr := HRr.out
          have hYX : Yb = Xb + 1 := hSz.1
          have hOs : Off (fun k => k = Xb + 1) w5 (w5.setCell ⟨Yb, 1, none⟩ (.int .i64 xn)) := by rw [← hYX]; exact Off.set w5 Yb 1 _
          have HS := Lib.hid (RuS.fin HA4.out HFx.out HN2.out HB4.out HSi.out.rb HRr.out HR5.out HO5.out hOs)
          have HX := Lib.hid (it_off (it_off HX4.out HO5.out (fun e => by omega)) hOs (fun e => by omega))
          have HYz := Lib.hid (it_one (v := .int .i64 xn) (it_off ⟨HYy.out.1.1, HYy.out.2.1.1, HYy.out.2.2.1⟩ HO5.out (fun e => by omega)))
          clear hSz hRr hYX hOs
          generalize w5.setCell ⟨Yb, 1, none⟩ (.int .i64 xn) = WX at *
          exact HRest.out _ _ _ _ _ _ _ _ _ _ _ _ _ _ _ _ _ _ _ _ _ _ _ _ _ _ _ _ _ _ _ _ _ _ _ _ _ _ _ _ _ _ _ _ _ _ _ _ _ _ _ _ _ _ _ _ _ _ _ _ _ _ WX _ HS.out HX.out HYz.out
        by_cases c1 : ck = 1
        · subst c1
          have hp : takeZ cd L N = ⟨⟨xd, xn, xt⟩, ze, zL, zn⟩ := by have := HZ.out; unfold doZ at this; rw [if_neg (by decide), if_pos rfl] at this; exact this.symm
          have HTk := take_or cd L N
          rw [hp] at HTk
          rcases HTk with ⟨h1, h2, h3, h4, hno⟩ | ⟨x, M, hL, hxd, h1, h2, h3, h4⟩
          · dsimp only at h1 h2 h3 h4
            unfold zI at h1
            injection h1 with h5 h6 h7
            subst h2 h3 h4 h5 h6 h7
            have HTk := Lib.hid (rtake_no W4 HR4.out cd hno)
            unfold zIt at HTk
            clear hp hno
            go_wp2_with fail
            refine HTk.out.mono ?_
            rintro e w5 ⟨rfl, hb⟩
            have HR5 := Lib.hid (HR4.out.keep hb)
            have HO5 : Hid (Off (fun k => k = r) W4 w5) := Lib.hid (Off.of hb)
            clear hb HTk
            have hSz := HSz.out
            have hRr := HRr.out
            have hy5 := it_off ⟨HYy.out.1.1, HYy.out.2.1.1, HYy.out.2.2.1⟩ HO5.out (show ¬ Yb = r from by omega)
            have hf5 : ∀ k, k < 3 → w5.frozen? ⟨Yb, k, none⟩ = false := fun k hk => (HO5.out.frozen (ltF HYy.out.1.1) (by omega)).trans (HY4.out k hk).2
            obtain ⟨y0, y1, y2⟩ := hy5
            have g0 := hf5 0 (by decide)
            have g1 := hf5 1 (by decide)
            have g2 := hf5 2 (by decide)
            clear hf5 hSz hRr
            go_wp2_with fail
            clear y0 y1 y2 g0 g1 g2
            have hSz := HSz.out
            have hRr := HRr.out
            have hYX : Yb = Xb + 1 := hSz.1
            have hOs : Off (fun k => k = Xb + 1) w5 (((w5.setCell ⟨Yb, 0, none⟩ (.int .i64 0)).setCell ⟨Yb, 1, none⟩ (.int .i64 0)).setCell ⟨Yb, 2, none⟩ (.int .i64 0)) := by rw [← hYX]; exact off_three w5 Yb _ _ _
            have HS := Lib.hid (RuS.fin HA4.out HFx.out HN2.out HB4.out HSi.out.rb HRr.out HR5.out HO5.out hOs)
            have HX := Lib.hid (it_off (it_off HX4.out HO5.out (fun e => by omega)) hOs (fun e => by omega))
            have HYz := Lib.hid (it_three (x := .int .i64 0) (y := .int .i64 0) (z := .int .i64 0) (it_off ⟨HYy.out.1.1, HYy.out.2.1.1, HYy.out.2.2.1⟩ HO5.out (fun e => by omega)))
            clear hSz hRr hYX hOs
            generalize ((w5.setCell ⟨Yb, 0, none⟩ (.int .i64 0)).setCell ⟨Yb, 1, none⟩ (.int .i64 0)).setCell ⟨Yb, 2, none⟩ (.int .i64 0) = WX at *
            exact HRest.out _ _ _ _ _ _ _ _ _ _ _ _ _ _ _ _ _ _ _ _ _ _ _ _ _ _ _ _ _ _ _ _ _ _ _ _ _ _ _ _ _ _ _ _ _ _ _ _ _ _ _ _ _ _ _ _ _ _ _ _ _ _ WX _ HS.out HX.out HYz.out
          · dsimp only at h1 h2 h3 h4
            subst hL h2 h3 h4
            have HTk := Lib.hid (rtake_yes W4 HR4.out (by have := HLl.out.1; simp at this; omega) cd hxd)
            rw [← h1] at HTk
            unfold itV at HTk
            dsimp only at HTk
            clear h1
            clear hp
            go_wp2_with fail
            refine HTk.out.mono ?_
            rintro e w5 ⟨rfl, ⟨v', hr⟩, ho⟩
            have HR5 := Lib.hid hr
            have HO5 := Lib.hid ho
            clear hr ho HTk
            have hSz := HSz.out
            have hRr := HRr.out
            have hy5 := it_off ⟨HYy.out.1.1, HYy.out.2.1.1, HYy.out.2.2.1⟩ HO5.out (show ¬ Yb = r from by omega)
            have hf5 : ∀ k, k < 3 → w5.frozen? ⟨Yb, k, none⟩ = false := fun k hk => (HO5.out.frozen (ltF HYy.out.1.1) (by omega)).trans (HY4.out k hk).2
            obtain ⟨y0, y1, y2⟩ := hy5
            have g0 := hf5 0 (by decide)
            have g1 := hf5 1 (by decide)
            have g2 := hf5 2 (by decide)
            clear hf5 hSz hRr
            go_wp2_with fail
            clear y0 y1 y2 g0 g1 g2
            have hSz := HSz.out
            have hRr := HRr.out
            have hYX : Yb = Xb + 1 := hSz.1
            have hOs : Off (fun k => k = Xb + 1) w5 (((w5.setCell ⟨Yb, 0, none⟩ (.int .i64 xd)).setCell ⟨Yb, 1, none⟩ (.int .i64 xn)).setCell ⟨Yb, 2, none⟩ (.int .i64 xt)) := by rw [← hYX]; exact off_three w5 Yb _ _ _
            have HS := Lib.hid (RuS.fin HA4.out HFx.out HN2.out HB4.out HSi.out.rb HRr.out HR5.out HO5.out hOs)
            have HX := Lib.hid (it_off (it_off HX4.out HO5.out (fun e => by omega)) hOs (fun e => by omega))
            have HYz := Lib.hid (it_three (x := .int .i64 xd) (y := .int .i64 xn) (z := .int .i64 xt) (it_off ⟨HYy.out.1.1, HYy.out.2.1.1, HYy.out.2.2.1⟩ HO5.out (fun e => by omega)))
            clear hSz hRr hYX hOs
            generalize ((w5.setCell ⟨Yb, 0, none⟩ (.int .i64 xd)).setCell ⟨Yb, 1, none⟩ (.int .i64 xn)).setCell ⟨Yb, 2, none⟩ (.int .i64 xt) = WX at *
            exact HRest.out _ _ _ _ _ _ _ _ _ _ _ _ _ _ _ _ _ _ _ _ _ _ _ _ _ _ _ _ _ _ _ _ _ _ _ _ _ _ _ _ _ _ _ _ _ _ _ _ _ _ _ _ _ _ _ _ _ _ _ _ _ _ WX _ HS.out HX.out HYz.out
        by_cases c2 : ck = 2
        · subst c2
          have hp : dropZ ct L N = ⟨⟨xd, xn, xt⟩, ze, zL, zn⟩ := by have := HZ.out; unfold doZ at this; rw [if_neg (by decide), if_neg (by decide), if_pos rfl] at this; exact this.symm
          have hn := drop_n ct L N
          rw [hp] at hn
          dsimp only at hn
          subst hn
          have HDr := rdrop_any W4 HR4.out HAv4 HNs.out.2 (by have := HLl.out; omega) ct
          rw [hp] at HDr
          unfold itV at HDr
          dsimp only at HDr
          have HDr := Lib.hid HDr
          clear hp
          go_wp2_with fail
          refine HDr.out.mono ?_
          rintro e w5 ⟨rfl, ⟨v', hr⟩, ho⟩
          have HR5 := Lib.hid hr
          have HO5 := Lib.hid ho
          clear hr ho HDr
          have hSz := HSz.out
          have hRr := HRr.out
          have hy5 := it_off ⟨HYy.out.1.1, HYy.out.2.1.1, HYy.out.2.2.1⟩ HO5.out (show ¬ Yb = r from by omega)
          have hf5 : ∀ k, k < 3 → w5.frozen? ⟨Yb, k, none⟩ = false := fun k hk => (HO5.out.frozen (ltF HYy.out.1.1) (by omega)).trans (HY4.out k hk).2
          obtain ⟨y0, y1, y2⟩ := hy5
          have g0 := hf5 0 (by decide)
          have g1 := hf5 1 (by decide)
          have g2 := hf5 2 (by decide)
          clear hf5 hSz hRr
          go_wp2_with fail
          clear y0 y1 y2 g0 g1 g2
          have hSz := HSz.out
          have hRr := HRr.out
          have hYX : Yb = Xb + 1 := hSz.1
          have hOs : Off (fun k => k = Xb + 1) w5 (((w5.setCell ⟨Yb, 0, none⟩ (.int .i64 xd)).setCell ⟨Yb, 1, none⟩ (.int .i64 xn)).setCell ⟨Yb, 2, none⟩ (.int .i64 xt)) := by rw [← hYX]; exact off_three w5 Yb _ _ _
          have HS := Lib.hid (RuS.fin HA4.out HFx.out HN2.out HB4.out HSi.out.rb HRr.out HR5.out HO5.out hOs)
          have HX := Lib.hid (it_off (it_off HX4.out HO5.out (fun e => by omega)) hOs (fun e => by omega))
          have HYz := Lib.hid (it_three (x := .int .i64 xd) (y := .int .i64 xn) (z := .int .i64 xt) (it_off ⟨HYy.out.1.1, HYy.out.2.1.1, HYy.out.2.2.1⟩ HO5.out (fun e => by omega)))
          clear hSz hRr hYX hOs
          generalize ((w5.setCell ⟨Yb, 0, none⟩ (.int .i64 xd)).setCell ⟨Yb, 1, none⟩ (.int .i64 xn)).setCell ⟨Yb, 2, none⟩ (.int .i64 xt) = WX at *
          exact HRest.out _ _ _ _ _ _ _ _ _ _ _ _ _ _ _ _ _ _ _ _ _ _ _ _ _ _ _ _ _ _ _ _ _ _ _ _ _ _ _ _ _ _ _ _ _ _ _ _ _ _ _ _ _ _ _ _ _ _ _ _ _ _ WX _ HS.out HX.out HYz.out
        have q0 : (ck == 0) = false := beq_false_of_ne c0
        have q1 : (ck == 1) = false := beq_false_of_ne c1
        have q2 : (ck == 2) = false := beq_false_of_ne c2
        have hp : moveZ ct cd L N = ⟨⟨xd, xn, xt⟩, ze, zL, zn⟩ := by have := HZ.out; unfold doZ at this; rw [if_neg c0, if_neg c1, if_neg c2] at this; exact this.symm
        have hn := move_n ct cd L N
        rw [hp] at hn
        obtain ⟨hn, hx⟩ := hn
        dsimp only at hn hx
        unfold zI at hx
        injection hx with h5 h6 h7
        subst hn h5 h6 h7
        have HMv := rmove_any W4.drew (HR4.out.keep (Below.drew (Below.refl _ _))) HAvD HNs.out.1 HNs.out.2 (by have := HLl.out; omega) ct cd
        rw [hp] at HMv
        have HMv := Lib.hid HMv
        clear c0 c1 c2
        have d1 : W4.drew.cell? ⟨g, o + i * 3 + 1, none⟩ = some (.int .i64 cd) := k1
        have d2 : W4.drew.cell? ⟨g, o + i * 3 + 2, none⟩ = some (.int .i64 ct) := k2
        have HNg := Lib.hid (show g ≠ Yb ∧ g ≠ r from by have h1 := HG.out; have h2 := HSi.out.rb; have h3 := HRr.out; have h4 := HSz.out.1; exact ⟨by omega, by omega⟩)
        have HNy := Lib.hid (show Yb ≠ r from by have h3 := HRr.out; have h4 := HSz.out.1; omega)
        clear k1 k2 hp
        go_upto_region 12 with fail
        go_region_held3 (fun w' => w'.cell? ⟨g, o + i * 3 + 1, none⟩ = some (.int .i64 cd) ∧ w'.cell? ⟨g, o + i * 3 + 2, none⟩ = some (.int .i64 ct)) (first | (with_reducible exact ⟨d1, d2⟩) | (with_reducible exact ⟨(set_blk HNg.out.1).trans d1, (set_blk HNg.out.1).trans d2⟩))
          ((go_at_call 15; (with_reducible refine HMv.out.mono ?_); rintro e w5 ⟨rfl, ⟨v', hr⟩, ho⟩; have HR5 := Lib.hid hr; have HO5 := Lib.hid (Off.undrew ho); have d1 := ho.cell d1 HNg.out.2; have d2 := ho.cell d2 HNg.out.2; have y1 := ho.cell (w := W4.drew) HYy.out.2.1.1 HNy.out; have yf := (ho.frozen (w := W4.drew) (ltF HYy.out.2.1.1) HNy.out).trans HYy.out.2.1.2; clear hr ho))
        go_wp2_with fail
        clear d1 d2 y1 yf
        have hSz := HSz.out
        have hRr := HRr.out
        have hYX : Yb = Xb + 1 := hSz.1
        have hOs : Off (fun k => k = Xb + 1) w5 (w5) := by rw [← hYX]; exact Off.refl _ _
        have HS := Lib.hid (RuS.fin HA4.out HFx.out HN2.out HB4.out HSi.out.rb HRr.out HR5.out HO5.out hOs)
        have HX := Lib.hid (it_off (it_off HX4.out HO5.out (fun e => by omega)) hOs (fun e => by omega))
        have HYz := Lib.hid (id (it_off ⟨HYy.out.1.1, HYy.out.2.1.1, HYy.out.2.2.1⟩ HO5.out (fun e => by omega)))
        clear hSz hRr hYX hOs
        generalize w5 = WX at *
        exact HRest.out _ _ _ _ _ _ _ _ _ _ _ _ _ _ _ _ _ _ _ _ _ _ _ _ _ _ _ _ _ _ _ _ _ _ _ _ _ _ _ _ _ _ _ _ _ _ _ _ _ _ _ _ _ _ _ _ _ _ _ _ _ _ WX _ HS.out HX.out HYz.out
      · obtain rfl : i = l.length := by omega
        have p1 : ¬ (l.length : Int) < (l.length : Int) := by omega
        have HB := Lib.hid hSi.bel
        clear hSi hlt hi
        go_wp2_with fail
        refine (HAw.out _).mono ?_
        rintro e w8 ⟨rfl, hb8⟩
        have HB8 := Lib.hid (onF HB.out hb8)
        clear hb8
        go_wp2_with fail
        go_ret
        exact ⟨rfl, HB8.out⟩
  · have nl : (60 : Int) < (l.length : Int) := by omega
    go_enter Try.func3, Try.ntmps3
    go_wp2_with fail
    refine HN.out.mono ?_
    rintro e w1 ⟨a, q, bm, rfl, hA, hb⟩
    have HB := Lib.hid hb
    clear hA hb HN
    go_wp2_with fail
    refine (HAw.out _).mono ?_
    rintro e w2 ⟨rfl, hb2⟩
    have HB2 := Lib.hid (onF HB.out hb2)
    clear hb2 HAw
    go_wp2_with fail
    go_ret
    exact ⟨rfl, HB2.out⟩

end Go.Proofs.Ytkfcaafjnolhgaa
