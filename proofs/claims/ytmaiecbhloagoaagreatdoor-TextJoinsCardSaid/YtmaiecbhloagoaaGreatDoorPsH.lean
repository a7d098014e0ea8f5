/-
  Package text: begin: what it answers.
-/
import Derived.Test.YtmaiecbhloagoaaGreatDoorPsG
import Derived.Deep.RegionLaw
import Derived.Deep.AppendLies
import Derived.Lib.OwnBridge
namespace Go.Proofs.YtmaiecbhloagoaaGreatDoor
open Go.RowKit Go.Lib
set_option linter.unusedVariables false
set_option linter.unusedSimpArgs false

/-- Behind an append to the nodes, and the store of the slice. -/
theorem PsR.pushN {w w1 : World} {P : Nat → Prop} {B : Nat} {s : ByteArray} {vn vd : Value} {m : Mc} (h : PsR w P B s vn vd m) {g n cap : Nat} {N : List Nd} (hg : w.grownBy w1 vn.ownBlock) (hn : OwnN w1 0 (.slice (some ⟨g, 0, none⟩) n cap) N) (hat : vn.ownBlock = some g ∨ w.heap.size ≤ g) :
    PsR (w1.setCell ⟨B, 1, none⟩ (.slice (some ⟨g, 0, none⟩) n cap)) P B s (.slice (some ⟨g, 0, none⟩) n cap) vd ⟨N, m.o, m.D⟩ ∧ KpP P w (w1.setCell ⟨B, 1, none⟩ (.slice (some ⟨g, 0, none⟩) n cap)) := by
  have hB := hg.block B h.blt (fun e => (h.bn B e.symm).1 rfl)
  have hc : ∀ i, w1.cell? ⟨B, i, none⟩ = w.cell? ⟨B, i, none⟩ := fun i => World.cell?_of_block (a := ⟨B, i, none⟩) hB
  have hd := World.ownsRow.kept h.hd hg h.ap.symm.ne
  have hgB : g ≠ B ∧ ¬ P g := by
    rcases hat with e | e
    · exact h.bn g e
    · have := h.blt
      exact ⟨by omega, fun hP => by have := h.lt g hP; omega⟩
  have hbn : ∀ k, (Value.slice (some ⟨g, 0, none⟩) n cap).ownBlock = some k → k ≠ B ∧ ¬ P k := fun k hk => by
    cases hk; exact hgB
  have hap : Ap2 (.slice (some ⟨g, 0, none⟩) n cap) vd := fun k hk => by
    cases hk
    rcases hat with e | e
    · exact h.ap g e
    · intro e2
      have := (World.ownsRow.lt h.hd g e2).2
      omega
  have hs := set_grown w1 ⟨B, 1, none⟩ (.slice (some ⟨g, 0, none⟩) n cap)
  have hlt : ∀ k, P k → k < w1.heap.size := fun k hk => Nat.lt_of_lt_of_le (h.lt k hk) hg.size
  refine ⟨⟨(cell_far (.inr (by omega))).trans ((hc 0).trans h.c0), cell_here ((hc 1).trans h.c1), (cell_far (.inr (by omega))).trans ((hc 2).trans h.c2), (cell_far (.inr (by omega))).trans ((hc 3).trans h.c3), fun j => by rw [World.frozen?_setCell]; exact (World.frozen?_of_block (a := ⟨B, j, none⟩) hB).trans (h.fr j), hn.kept hs (ne_row (fun j hj => (hbn j hj).1)), World.ownsRow.kept hd hs (ne_row (fun j hj => (h.bd j hj).1)), hap, hbn, h.bd, h.nb, fun k hk => Nat.lt_of_lt_of_le (hlt k hk) hs.size⟩, ?_⟩
  exact (KpP.grown hg h.lt (fun k e => (h.bn k e).2)).trans (KpP.set _ _ _ hlt h.nb)
/-- Behind an append to what has to come, and the store of the slice. -/
theorem PsR.pushD {w w1 : World} {P : Nat → Prop} {B : Nat} {s : ByteArray} {vn vd : Value} {m : Mc} (h : PsR w P B s vn vd m) {vd' : Value} {D : List Nat} (hg : w.grownBy w1 vd.ownBlock) (hd : YtmaiecbhloagoaaGreatDoor.Own w1 0 vd' (dueL D)) (hat : vd'.ownBlock = vd.ownBlock ∨ vd'.ownBlock = some w.heap.size) :
    PsR (w1.setCell ⟨B, 3, none⟩ vd') P B s vn vd' ⟨m.N, m.o, D⟩ ∧ KpP P w (w1.setCell ⟨B, 3, none⟩ vd') ∧ w1.cell? ⟨B, 3, none⟩ = some vd ∧ w1.frozen? ⟨B, 3, none⟩ = false := by
  have hB := hg.block B h.blt (fun e => (h.bd B e.symm).1 rfl)
  have hc : ∀ i, w1.cell? ⟨B, i, none⟩ = w.cell? ⟨B, i, none⟩ := fun i => World.cell?_of_block (a := ⟨B, i, none⟩) hB
  have hn := World.ownsRow.kept h.hn hg h.ap.ne
  have hlt : ∀ k, P k → k < w1.heap.size := fun k hk => Nat.lt_of_lt_of_le (h.lt k hk) hg.size
  have hbd : ∀ k, vd'.ownBlock = some k → k ≠ B ∧ ¬ P k := fun k hk => by
    rcases hat with e | e
    · exact h.bd k (e.symm.trans hk)
    · rw [e] at hk
      injection hk with hk
      have := h.blt
      exact ⟨by omega, fun hP => by have := h.lt k hP; omega⟩
  have hap : Ap2 vn vd' := fun k hk hk2 => by
    rcases hat with e | e
    · exact h.ap k hk (e.symm.trans hk2)
    · rw [e] at hk2
      injection hk2 with hk2
      have := (World.ownsRow.lt h.hn k hk).2
      omega
  have hs := set_grown w1 ⟨B, 3, none⟩ vd'
  refine ⟨⟨(cell_far (.inr (by omega))).trans ((hc 0).trans h.c0), (cell_far (.inr (by omega))).trans ((hc 1).trans h.c1), (cell_far (.inr (by omega))).trans ((hc 2).trans h.c2), cell_here ((hc 3).trans h.c3), fun j => by rw [World.frozen?_setCell]; exact (World.frozen?_of_block (a := ⟨B, j, none⟩) hB).trans (h.fr j), World.ownsRow.kept hn hs (ne_row (fun j hj => (h.bn j hj).1)), World.ownsRow.kept hd hs (ne_row (fun j hj => (hbd j hj).1)), hap, h.bn, hbd, h.nb, fun k hk => Nat.lt_of_lt_of_le (hlt k hk) hs.size⟩, ?_, (hc 3).trans h.c3, (World.frozen?_of_block (a := ⟨B, 3, none⟩) hB).trans (h.fr 3)⟩
  exact (KpP.grown hg h.lt (fun k e => (h.bd k e).2)).trans (KpP.set _ _ _ hlt h.nb)
theorem HdW.kp {P : Nat → Prop} {w w' : World} (h : HdW w) (hk : KpP P w w') (hP : P 0) : HdW w' :=
  ⟨fun k hk' => (hk.cell (a := ⟨_, _, none⟩) hP).trans (h.c0 k hk'), fun k hk' => (hk.cell (a := ⟨_, _, none⟩) hP).trans (h.c1 k hk'), fun k hk' => (hk.cell (a := ⟨_, _, none⟩) hP).trans (h.c2 k hk')⟩
theorem KndW.kp {P : Nat → Prop} {w w' : World} (h : KndW w) (hk : KpP P w w') (hP : P 1) : KndW w' :=
  ⟨fun k hk' => (hk.cell (a := ⟨_, _, none⟩) hP).trans (h.c0 k hk'), fun k hk' => (hk.cell (a := ⟨_, _, none⟩) hP).trans (h.c1 k hk'), fun k hk' => (hk.cell (a := ⟨_, _, none⟩) hP).trans (h.c2 k hk'), fun k hk' => (hk.cell (a := ⟨_, _, none⟩) hP).trans (h.c3 k hk'), fun k hk' => (hk.cell (a := ⟨_, _, none⟩) hP).trans (h.c4 k hk'), fun k hk' => (hk.cell (a := ⟨_, _, none⟩) hP).trans (h.c5 k hk'), fun k hk' => (hk.cell (a := ⟨_, _, none⟩) hP).trans (h.c6 k hk'), fun k hk' => (hk.cell (a := ⟨_, _, none⟩) hP).trans (h.c7 k hk')⟩
/-- Numbers of the call's own, the other way round. -/
theorem reverse_own {w : World} {base : Nat} {v : Value} {l : List Int} (h : YtmaiecbhloagoaaGreatDoor.Own w base v l) (hl : l.length ≤ 100000) : Calls Tryz.prog 119 #[v] w fun e w' => e = .returned (.tuple #[]) ∧ YtmaiecbhloagoaaGreatDoor.Own w' base v l.reverse ∧ Below base w w' := by
  by_cases h0 : l = []
  · subst h0
    obtain ⟨a, cap, rfl⟩ := Own.sliceI h
    refine (Tryz.slices_Reverse_int_empty a cap w).mono ?_
    rintro e w' ⟨rfl, rfl⟩
    exact ⟨rfl, h, Below.refl _ _⟩
  · have hv : v ≠ .slice none 0 0 := by
      intro e
      rcases h.2 with ⟨_, hn⟩ | ⟨g, cap, cur, e2, _⟩
      · exact h0 (List.length_eq_zero_iff.1 hn)
      · rw [e] at e2; cases e2
    obtain ⟨g, cap, rfl, hb, hgs, hn, hm, _, hH⟩ := Lib.holds_of_ownsRow (enc := Value.int .i64) h hv
    refine (Tryz.slices_Reverse_int g 0 cap l w hH (by omega)).mono ?_
    rintro e w' ⟨rfl, n, rfl⟩
    refine ⟨rfl, ?_, below_putRow (Below.refl _ _) hb⟩
    have h2 := ownsRow_putRow (q := n) (k := l.length) (ys := l.reverse) h (by simp) (Nat.le_refl _)
    unfold YtmaiecbhloagoaaGreatDoor.Own
    rw [List.length_reverse]
    rw [show l.reverse.take l.length = l.reverse from List.take_of_length_le (by simp)] at h2
    exact h2
theorem dueL_beh (k : Nat) (D : List Nat) : dueL (bhN k ++ D) = dueL D ++ ((bhN k).map fun (p : Nat) => (p : Int)).reverse := by
  rw [dueL_app]
  unfold dueL
  rw [← List.map_reverse]
theorem bh_len : ∀ k : Fin 18, (bhN k.val).length ≤ 9 := by decide
theorem slN_own {w : World} {base : Nat} {v : Value} {l : List Int} (h : YtmaiecbhloagoaaGreatDoor.Own w base v l) : SlN w v l := by
  rcases h.2 with ⟨rfl, hn⟩ | ⟨g, cap, cur, rfl, _⟩
  · exact .inr ⟨List.length_eq_zero_iff.1 hn, 0, rfl⟩
  · exact .inl ⟨_, cap, rfl, fun j z hz => World.ownsRow.cells h (g := g) rfl j z hz⟩
def ndV (n : Nd) : Array Value := #[.int .i64 n.op, .int .i64 n.a, .int .i64 n.b, .int .i64 n.num, .int .i64 n.den]
theorem nd_cells (w : World) (n : Nd) (e : TypeId) : NdC (w.alloc (.cells (ndV n) e)) w.heap.size 0 n := by
  refine ⟨?_, ?_, ?_, ?_, ?_⟩
  all_goals rw [World.cell?_alloc_at _ _ _ _ rfl]
  all_goals rfl
set_option maxHeartbeats 1000000 in
set_option maxRecDepth 100000 in
theorem begin_no (P : Nat → Prop) (B : Nat) (s : ByteArray) (m : Mc) (n : Nd) (h : 64 ≤ m.N.length ∨ 12 ≤ m.o) (hN : m.N.length ≤ 100000) (w : World) (H : PsM w P B s m) : Calls Tryz.prog 95 #[.pointer (some ⟨B, 0, none⟩), .agg (ndV n)] w (TakeE P B s (15, m) w) := by
  obtain ⟨vn, vd, H⟩ := H
  obtain ⟨av, cv, rfl⟩ := H.hn.slice
  obtain ⟨N, o, D⟩ := m
  have H1 := H.keep (newB w (.cells (ndV n) 48))
  have c1 := H1.c1
  have c2 := H1.c2
  have HK := Lib.hid (KpP.of (newB w (.cells (ndV n) 48)) H.lt)
  clear H H1
  dsimp only at *
  unfold ndV at *
  by_cases h64 : 64 ≤ N.length
  · have i1 : (64 : Int) ≤ (N.length : Int) := by omega
    clear h c2
    go_enter Tryz.func95, Tryz.ntmps95
    go_wp2_with fail
    go_ret
    exact ⟨rfl, fun h => (by cases h), HK.out⟩
  · have i1 : ¬ (64 : Int) ≤ (N.length : Int) := by omega
    have i2 : (12 : Int) ≤ o := by omega
    clear h h64
    go_enter Tryz.func95, Tryz.ntmps95
    go_wp2_with fail
    go_ret
    exact ⟨rfl, fun h => (by cases h), HK.out⟩

set_option maxHeartbeats 4000000 in
set_option maxRecDepth 100000 in
theorem begin_yes (P : Nat → Prop) (B : Nat) (s : ByteArray) (m : Mc) (n : Nd) (k : Nat) (hk : k < 18) (hop : n.op = (k : Int)) (h1 : m.N.length < 64) (h2 : m.o < 12) (hD : m.D.length ≤ 10000) (w : World) (H : PsM w P B s m) (Hd : HdW w) (C : KndW w) (hPk : P 0 ∧ P 1) :
    Calls Tryz.prog 95 #[.pointer (some ⟨B, 0, none⟩), .agg (ndV n)] w (TakeE P B s (0, ⟨m.N ++ [n], m.o, bhN k ++ m.D⟩) w) := by
  obtain ⟨vn, vd, H⟩ := H
  obtain ⟨N, o, D⟩ := m
  obtain ⟨op, na, nb, num, den⟩ := n
  dsimp only at hop
  subst hop
  have HB0 := Lib.hid (newB w (.cells (ndV ⟨(k : Int), na, nb, num, den⟩) 48))
  have HP0 := Lib.hid (H.keep (newB w (.cells (ndV ⟨(k : Int), na, nb, num, den⟩) 48)))
  have HNd := Lib.hid (nd_cells w ⟨(k : Int), na, nb, num, den⟩ 48)
  have HHd := Lib.hid (Hd.keep HB0.out)
  have HC := Lib.hid (C.keep HB0.out)
  have HL0 := Lib.hid H.lt
  have hsz0 : (w.alloc (.cells (ndV ⟨(k : Int), na, nb, num, den⟩) 48)).heap.size = w.heap.size + 1 := by simp
  have HBw := Lib.hid H.blt
  have HHd0 := Lib.hid Hd
  have HC0 := Lib.hid C
  have HVl : Hid (∀ j, vn.ownBlock = some j → j < w.heap.size) := Lib.hid (fun j hj => (World.ownsRow.lt H.hn j hj).2)
  clear H Hd C
  dsimp only at *
  unfold ndV at *
  go_enter Tryz.func95, Tryz.ntmps95
  have c1 := HP0.out.c1
  have c2 := HP0.out.c2
  have f1 := HP0.out.fr 1
  obtain ⟨av, cv, rfl⟩ := HP0.out.hn.slice
  have i1 : ¬ (64 : Int) ≤ (N.length : Int) := by omega
  have i2 : ¬ (12 : Int) ≤ o := by omega
  dsimp only at c1
  go_upto_region 3 with fail
  clear c2
  obtain ⟨n0, n1, n2, n3, n4⟩ := HNd.out
  generalize hW0 : w.alloc (.cells #[.int .i64 (k : Int), .int .i64 na, .int .i64 nb, .int .i64 num, .int .i64 den] 48) = W0 at *
  have hown := HP0.out.hn
  have hap := HP0.out.ap
  have hbn := HP0.out.bn
  have hBlt := HP0.out.blt
  dsimp only at hown
  unfold OwnN at hown
  have HZ0 := Lib.hid hsz0
  clear hsz0
  have nB : some B ≠ (Value.slice av N.length cv).ownBlock := fun e => (hbn B e.symm).1 rfl
  have h63 : N.length + 1 ≤ maxLen := by unfold maxLen; omega
  have hby : (N.length + 1) * 40 ≤ 140737488355328 := by omega
  have hbs : 0 ≤ (W0.drew.alloc (.cells #[.int .i64 (k : Int), .int .i64 na, .int .i64 nb, .int .i64 num, .int .i64 den] 48)).heap.size := Nat.zero_le _
  obtain ⟨i0, hi0, hz0, hz1, hz2⟩ := info_parts infoND
  have hn1 : Below W0.heap.size W0 (W0.alloc (.cells #[.int .i64 (k : Int), .int .i64 na, .int .i64 nb, .int .i64 num, .int .i64 den] 48)).drew := (newB W0 _).drew
  have f1a := keepT (newB W0 (.cells #[.int .i64 (k : Int), .int .i64 na, .int .i64 nb, .int .i64 num, .int .i64 den] 48)) c1
  have hf1 : (W0.alloc (.cells #[.int .i64 (k : Int), .int .i64 na, .int .i64 nb, .int .i64 num, .int .i64 den] 48)).drew.frozen? ⟨B, 1, none⟩ = false := (hn1.frozen (p := ⟨B, 1, none⟩) hBlt).trans f1
  go_region_law
    ((refine step_append_lies _ (by rfl) _ _ _ (by rfl) 0 48 i0 _ 5 40 Tryz.underlying22 hi0 hz0 hz1 hz2 rfl (by omega) (.slice av N.length cv) N.length (ndR N) (by rfl) (World.ownsRow.alloc (World.ownsRow.drew hown) _) ⟨W0.heap.size, 0, none⟩ 1 1 [.int .i64 (k : Int), .int .i64 na, .int .i64 nb, .int .i64 num, .int .i64 den] (by rfl) (by rfl) (World.news_of_block (cs := #[.int .i64 (k : Int), .int .i64 na, .int .i64 nb, .int .i64 num, .int .i64 den]) (t := 48) (fr := (0, 0)) (heap_alloc_new W0.drew _)) (by simp [Value.oneCell']) (by omega) h63 hby hbs (W0.heap.size + 1) (by simp) ?_
      intro g cap2 w1 hown1 hgrow hat hlt2
      have s1 : w1.cell? ⟨B, 1, none⟩ = some (.slice av N.length cv) := by rw [hgrow.cell_far ⟨B, 1, none⟩ (by simp; omega) nB]; exact keepT hn1 c1
      have e2 : w1.frozen? ⟨B, 1, none⟩ = false := by rw [hgrow.frozen_far ⟨B, 1, none⟩ (by simp; omega) nB]; exact hf1))
  all_goals
    have hnw : OwnN w1 0 (.slice (some ⟨g, 0, none⟩) (N.length + 1) cap2) (N ++ [⟨(k : Int), na, nb, num, den⟩]) := by
      unfold OwnN
      rw [show (N ++ [(⟨(k : Int), na, nb, num, den⟩ : Nd)]).length = N.length + 1 by simp, ndR_app, show ndR [(⟨(k : Int), na, nb, num, den⟩ : Nd)] = ndL ⟨(k : Int), na, nb, num, den⟩ by simp [ndR]]
      exact hown1
    have hpn := PsR.pushN (HP0.out.keep hn1) hgrow hnw (by
      rcases hat with e | e
      · exact .inl e
      · right
        rw [e]
        show (W0.alloc _).heap.size ≤ _
        simp)
    have HP1 := Lib.hid hpn.1
    have HK1 := Lib.hid ((KpP.of (HB0.out) HL0.out).trans ((KpP.of hn1 HP0.out.lt).trans hpn.2))
    have n0' : (w1.setCell ⟨B, 1, none⟩ (.slice (some ⟨g, 0, none⟩) (N.length + 1) cap2)).cell? ⟨w.heap.size, 0, none⟩ = some (.int .i64 (k : Int)) := by
      have hbw := HBw.out
      rw [cell_far (.inl (by omega)), hgrow.cell_far ⟨w.heap.size, 0, none⟩ (by have := HZ0.out; simp; omega) (fun e => Nat.lt_irrefl _ (HVl.out w.heap.size e.symm))]
      exact keepT hn1 n0
    clear hnw hpn hown1 hgrow hat hlt2 s1 e2 f1a hf1
    generalize w1.setCell ⟨B, 1, none⟩ (.slice (some ⟨g, 0, none⟩) (N.length + 1) cap2) = W1 at *
    have HBh := Lib.hid (behind_any k hk W1 (HHd0.out.kp HK1.out hPk.1) (HC0.out.kp HK1.out hPk.2))
    have h9 := bh_len ⟨k, hk⟩
    dsimp only at h9
    clear c1 n0 n1 n2 n3 n4 hap hbn nB hown hn1 hbs h63 hby f1
    go_wp2_with fail
    refine HBh.out.mono ?_
    rintro e w2 ⟨v, rfl, hv, hb2⟩
    have HP2 := Lib.hid (HP1.out.keep hb2)
    have HK2 := Lib.hid (HK1.out.trans (KpP.of hb2 HP1.out.lt))
    have HRv := Lib.hid (reverse_own hv (by simp; omega))
    clear hv n0'
    go_wp2_with fail
    refine HRv.out.mono ?_
    rintro e w3 ⟨rfl, hv3, hb3⟩
    have hb13 := hb2.trans hb3
    have HP3 : Hid (PsR w3 P B s (.slice (some ⟨g, 0, none⟩) (N.length + 1) cap2) vd ⟨N ++ [⟨(k : Int), na, nb, num, den⟩], o, D⟩) := Lib.hid (HP1.out.keep hb13)
    have HK3 := Lib.hid (HK1.out.trans (KpP.of hb13 HP1.out.lt))
    have HV3 := Lib.hid hv3
    have c3 := HP3.out.c3
    have hlen : (dueL D).length ≤ 10000 := by rw [dueL_len]; exact hD
    have HDu := Lib.hid (dueL_beh k D)
    clear hb2 hb3 hb13 hv3
    generalize hbl : ((bhN k).map fun (p : Nat) => (p : Int)).reverse = bl at *
    have hbl2 : bl.length ≤ 9 := by rw [← hbl]; simp; exact h9
    clear hbl h9
    go_wp2_with (at_builtin; refine wpList_append_ints rfl _ _ rfl 0 vd (dueL D) rfl HP3.out.hd _ bl rfl (slN_own HV3.out) (by omega) (Nat.zero_le _) ?_; intro vd' w4 ho hgr hat; obtain ⟨va', vn', vc', rfl⟩ : ∃ a' n' c', vd' = .slice a' n' c' := (Own.sliceI ho).elim fun a' h => h.elim fun c' h => ⟨a', _, c', h⟩; have hpd := PsR.pushD (D := bhN k ++ D) HP3.out hgr (by rw [HDu.out]; exact ho) hat; have HP4 := Lib.hid hpd.1; have HK4 := Lib.hid (HK3.out.trans hpd.2.1); have c4 := hpd.2.2.1; have f4 := hpd.2.2.2; clear hpd ho hgr hat c3)
    go_ret
    exact ⟨rfl, fun _ => ⟨_, _, HP4.out⟩, HK4.out⟩

end Go.Proofs.YtmaiecbhloagoaaGreatDoor
