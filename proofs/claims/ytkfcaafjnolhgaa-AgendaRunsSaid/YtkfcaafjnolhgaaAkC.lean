/-
  chattelref11: Drop: what it answers.
-/
import Derived.Test.YtkfcaafjnolhgaaAkB
namespace Go.Proofs.Ytkfcaafjnolhgaa
open Go.RowKit Go.Lib Go.Maps Go.Sort Go.Shelf
set_option linter.unusedVariables false
set_option linter.unusedSimpArgs false

variable {Av : Nat → Prop}
theorem noI_cut {L : List It} {n i : Nat} {no : Int} (h : NoS L n) (hi : i < L.length) (hx : (L.getD i default).no = no) : noI no L = L.take i ++ L.drop (i + 1) := by
  have hd : L.drop i = L.getD i default :: L.drop (i + 1) := by
    rw [List.drop_eq_getElem_cons hi, List.getD_eq_getElem?_getD, List.getElem?_eq_getElem hi]; rfl
  have hL : L = L.take i ++ L.getD i default :: L.drop (i + 1) := by rw [← hd, List.take_append_drop]
  generalize L.getD i default = x at *
  generalize L.take i = A at *
  generalize L.drop (i + 1) = B at *
  have hxm : x ∈ L := by rw [hL]; exact List.mem_append_right _ (List.mem_cons_self ..)
  have hA : ∀ y ∈ A, y.no ≠ no := fun y hy e => by
    have := h.1 y (by rw [hL]; exact List.mem_append_left _ hy) x hxm (e.trans hx.symm)
    subst this
    have hn := h.2.2
    rw [hL] at hn
    exact (List.nodup_append.1 hn).2.2 y hy y (List.mem_cons_self ..) rfl
  have hB : ∀ y ∈ B, y.no ≠ no := fun y hy e => by
    have := h.1 y (by rw [hL]; exact List.mem_append_right _ (List.mem_cons_of_mem _ hy)) x hxm (e.trans hx.symm)
    subst this
    have hn := h.2.2
    rw [hL] at hn
    exact (List.nodup_cons.1 (List.nodup_append.1 hn).2.1).1 hy
  unfold noI
  rw [hL, List.filter_append, List.filter_cons_of_neg (by simp [hx]), List.filter_eq_self.2 (fun y hy => by simpa using hA y hy), List.filter_eq_self.2 (fun y hy => by simpa using hB y hy)]
theorem find_cut {L : List It} {n i : Nat} {no : Int} (h : NoS L n) (hi : i < L.length) (hx : (L.getD i default).no = no) : dropZ no L n = ⟨L.getD i default, 0, L.take i ++ L.drop (i + 1), n⟩ := by
  have hm : L.getD i default ∈ L := by
    rw [List.getD_eq_getElem?_getD, List.getElem?_eq_getElem hi]; exact List.getElem_mem _
  unfold dropZ
  rcases find_no (L := L) (no := no) with ⟨x, e, hx2, hn⟩ | ⟨e, hno⟩
  · rw [e]
    have := h.1 x hx2 _ hm (hn.trans hx.symm)
    subst this
    rw [noI_cut h hi hx]
  · exact absurd hx (hno _ hm)
theorem find_end {L : List It} {n : Nat} {no : Int} (h : ∀ j, j < L.length → (L.getD j default).no ≠ no) : dropZ no L n = ⟨zI, 16, L, n⟩ := by
  unfold dropZ
  rcases find_no (L := L) (no := no) with ⟨x, e, hx2, hn⟩ | ⟨e, hno⟩
  · obtain ⟨j, hj, rfl⟩ := List.getElem_of_mem hx2
    have := h j hj
    rw [List.getD_eq_getElem?_getD, List.getElem?_eq_getElem hj] at this
    exact absurd hn this
  · rw [e]

set_option maxRecDepth 100000 in
set_option maxHeartbeats 8000000 in
theorem rdrop_any (w : World) {r n : Nat} {v : Value} {L : List It} (h : RgV Av w r v L n) (hA : ∀ k, Av k → k < w.heap.size) (hns : NoS L n) (hl : L.length ≤ 500) (no : Int) : Calls Try.prog 14 #[.pointer (some ⟨r, 0, none⟩), .int .i64 no] w fun e w' => e = .returned (.tuple #[itV (dropZ no L n).x, .int .i64 (dropZ no L n).e]) ∧ (∃ v', RgV Av w' r v' (dropZ no L n).L n) ∧ Off (fun k => k = r) w w' := by
  obtain ⟨Z, hZ⟩ : ∃ Z, Z = dropZ no L n := ⟨_, rfl⟩
  rw [← hZ]
  have HDz := Lib.hid hZ
  clear hZ
  obtain ⟨va, vc, rfl⟩ := h.row.slice
  obtain ⟨W1, e1, hb1, hz1, hz⟩ := one_item w
  have HE := Lib.hid e1
  clear e1
  have HB := Lib.hid hb1
  have HZ := Lib.hid hz
  have HR := Lib.hid (h.keep hb1)
  have HRn : Hid (∀ b o m c, Value.slice va L.length vc = .slice (some ⟨b, o, none⟩) m c → L ≠ [] → b ≠ w.heap.size) := Lib.hid (fun b o m c e hne e' => by
    rcases h.row with ⟨h0, _⟩ | ⟨_, b2, o2, c2, h1, _, _, h4⟩
    · exact hne h0
    · rw [e] at h1; injection h1 with h1 _ _; injection h1 with h1; injection h1 with h1 _ _
      have := ltF (h4 0 (List.length_pos_iff.2 hne) 0 _ (by decide) rfl)
      omega)
  have HNs := Lib.hid hns
  have HRl := Lib.hid h.lt
  have HAv := Lib.hid hA
  have HS1 := Lib.hid hz1
  have c0 := HR.out.c0
  have l5 : (L.length : Int) ≤ 500 := by omega
  have HLe := Lib.hid hl
  clear h hns hb1 hz hz1 hl hA
  go_enter Try.func14, Try.ntmps14
  go_upto_region 1 with fail
  rw [← HE.out]
  clear HE
  go_wp2_with fail
  go_loopw [6] (fun vi wx => ∃ i : Nat, i ≤ L.length ∧ vi = .int .i64 (i : Nat) ∧ (∀ j, j < i → (L.getD j default).no ≠ no) ∧ wx = W1) (fun vi _ => L.length - (RowKit.intOf vi).toNat)
  case atStart => exact ⟨0, Nat.zero_le _, rfl, fun j hj => absurd hj (Nat.not_lt_zero _), rfl⟩
  case round =>
    obtain ⟨i, hi, rfl, hno, hw⟩ := hrel
    subst hw
    by_cases hlt : i < L.length
    · have i0 : (0 : Int) ≤ (i : Int) := by omega
      have i1 : (i : Int) < (L.length : Int) := by omega
      have HLt := Lib.hid hlt
      obtain ⟨g, o, cap, hv, hc1, hc2, hT⟩ : ∃ g o cap, Value.slice va L.length vc = .slice (some ⟨g, o, none⟩) L.length cap ∧ L.length ≤ cap ∧ cap ≤ 9223372036854775807 ∧ ∀ j, j < L.length → ∀ i c, i < 3 → (itL (L.getD j default))[i]? = some c → wr.cell? ⟨g, o + j * 3 + i, none⟩ = some c := by
        rcases HR.out.row with ⟨e, _⟩ | ⟨_, g, o, cap, h1, h2, h3, h4⟩
        · rw [e] at hlt; exact absurd hlt (Nat.not_lt_zero _)
        · exact ⟨g, o, cap, h1, h2, h3, h4⟩
      injection hv with hv1 _ hv3
      subst hv1 hv3
      have k0 : wr.cell? ⟨g, o + i * 3, none⟩ = some (.int .i64 (L.getD i default).d) := hT i hlt 0 _ (by omega) rfl
      have k1 : wr.cell? ⟨g, o + i * 3 + 1, none⟩ = some (.int .i64 (L.getD i default).no) := hT i hlt 1 _ (by omega) rfl
      have k2 : wr.cell? ⟨g, o + i * 3 + 2, none⟩ = some (.int .i64 (L.getD i default).tag) := hT i hlt 2 _ (by omega) rfl
      by_cases hx : (L.getD i default).no = no
      · have HZe := Lib.hid (HDz.out.trans (find_cut HNs.out hlt hx))
        have hil : i ≤ L.length := by omega
        have hil2 : i + 1 ≤ L.length := by omega
        have HRw := Lib.hid (fun (wx : World) (hb : Below wr.heap.size wr wx) => And.intro (RowX.head (E := itL) (n := 3) hc1 hc2 (fun j hj i c hi he => keepF hb (hT j hj i c hi he)) hil) (RowX.tail (E := itL) (n := 3) hc1 hc2 (fun j hj i c hi he => keepF hb (hT j hj i c hi he)) hil2))
        have hnb : g ≠ r := fun e => HR.out.ne g o _ _ rfl (fun e => by rw [e] at hlt; exact absurd hlt (Nat.not_lt_zero _)) (by rw [e]; exact HR.out.pr)
        generalize L.getD i default = x at *
        have b1 : (x.no == no) = true := by simpa using hx
        clear hno hlt hT hx hil hil2 hi HNs HDz
        have HS0 := Lib.hid (show wr.heap.size = w.heap.size + 1 from HS1.out)
        obtain ⟨j, hj, hj2⟩ : ∃ j : Nat, (i : Int) + 1 = (j : Int) ∧ j = i + 1 := ⟨i + 1, by omega, rfl⟩
        have j1 : (j : Int) ≤ (L.length : Int) := by omega
        have j2 : (j : Int) ≤ (vc : Int) := by omega
        have j0 : (0 : Int) ≤ (j : Int) := by omega
        rw [← hj2] at HRw HZe
        clear hj2
        go_upto_region 6 with fail
        have hb2 := newF wr (.cells #[.int .i64 x.d, .int .i64 x.no, .int .i64 x.tag] 37)
        have hsz : (wr.alloc (.cells #[.int .i64 x.d, .int .i64 x.no, .int .i64 x.tag] 37)).heap.size = wr.heap.size + 1 := by simp
        have x0 : (wr.alloc (.cells #[.int .i64 x.d, .int .i64 x.no, .int .i64 x.tag] 37)).cell? ⟨wr.heap.size, 0, none⟩ = some (.int .i64 x.d) := (World.cell?_alloc_at _ _ _ _ rfl).trans rfl
        have x1 : (wr.alloc (.cells #[.int .i64 x.d, .int .i64 x.no, .int .i64 x.tag] 37)).cell? ⟨wr.heap.size, 1, none⟩ = some (.int .i64 x.no) := (World.cell?_alloc_at _ _ _ _ rfl).trans rfl
        have x2 : (wr.alloc (.cells #[.int .i64 x.d, .int .i64 x.no, .int .i64 x.tag] 37)).cell? ⟨wr.heap.size, 2, none⟩ = some (.int .i64 x.tag) := (World.cell?_alloc_at _ _ _ _ rfl).trans rfl
        have HX := Lib.hid (And.intro x0 (And.intro x1 x2))
        have HB2 := Lib.hid hb2
        have HSz := Lib.hid hsz
        have HR2 := Lib.hid (HR.out.keep hb2)
        have HHa := Lib.hid (HRw.out _ hb2)
        have c0 := HR2.out.c0
        clear hb2 hsz x0 x1 x2 k0 k1 k2
        generalize wr.alloc (.cells #[.int .i64 x.d, .int .i64 x.no, .int .i64 x.tag] 37) = W2 at *
        by_cases cv : vc ≤ j
        · have HDn : Hid (L.drop j = []) := Lib.hid (List.drop_eq_nil_of_le (by omega))
          have cv2 : vc = j := by omega
          have hlj : L.length = j := by omega
          have hlj0 : L.length - j = 0 := by omega
          have j3 : ¬ j = 0 := by omega
          clear hlj cv
          subst cv2
          go_upto_region 9 with (at_builtin; first | (refine wpList_append_x (E := itL) (k := 3) (fun _ => rfl) (by decide) itL_one Try.underlying27 infoRi rfl (by decide) rfl _ _ rfl W2.heap.size _ [] rfl (OwnX.nil _ _ _ _ _) _ (L.take i) rfl HHa.out.1 (by have := HLe.out; simp <;> omega) (Nat.le_refl _) ?_; intro v5 w5 ho5 hg5 hat5; rw [List.nil_append] at ho5; have HO5 := Lib.hid ho5; have HB5 : Hid (Below W2.heap.size W2 w5) := Lib.hid (Below.grown (Below.refl _ _) hg5 (Nat.le_refl _) (fun k hk => by cases hk)); have HR5 := Lib.hid (HR2.out.keep HB5.out); have HH5 := Lib.hid (HRw.out w5 (onF HB2.out HB5.out)); have c0 := HR5.out.c0; obtain ⟨sb, sn, sd, hsn, rfl⟩ : ∃ a n c, n = (L.take i).length ∧ v5 = Value.slice a n c := (by obtain ⟨a, c, h⟩ := ho5.slice; exact ⟨a, _, c, rfl, h⟩); clear hsn; clear ho5 hg5 hat5) | (refine wpList_append_x (E := itL) (k := 3) (fun _ => rfl) (by decide) itL_one Try.underlying27 infoRi rfl (by decide) rfl _ _ rfl W2.heap.size _ (L.take i) rfl HO5.out _ (L.drop vc) rfl (by rw [HDn.out]; exact .inl ⟨rfl, _, _, by first | rfl | (congr 1; omega)⟩) (by have := HLe.out; simp <;> omega) HB5.out.size ?_; intro v6 w6 ho6 hg6 hat6; have HO6 := Lib.hid ho6; have HB6 : Hid (Below W2.heap.size W2 w6) := Lib.hid (Below.grown HB5.out hg6 HB5.out.size (fun k hk => (HO5.out.lt k hk).1)); have HR6 := Lib.hid (HR2.out.keep HB6.out); have c0 := HR6.out.c0; have f0 := HR6.out.f0; obtain ⟨tb, tn, td, htn, rfl⟩ : ∃ a n c, n = (L.take i ++ L.drop vc).length ∧ v6 = Value.slice a n c := (by obtain ⟨a, c, h⟩ := ho6.slice; exact ⟨a, _, c, rfl, h⟩); clear htn; clear ho6 hg6 hat6))
          have HR7 := Lib.hid (HR6.out.put (HO6.out.row (E := itL) (k := 3) itL_len) (own_av HO6.out (fun k hk => by have h1 := HAv.out k hk; have h2 := HSz.out; have h3 := HS0.out; omega)))
          have hrl := HRl.out
          have hs0 := HS0.out
          have hs2 := HSz.out
          have HO7 := Lib.hid (Off.set w6 r 0 (.slice tb tn td))
          have x0 := HO7.out.cell (keepF HB6.out HX.out.1) (fun e => by omega)
          have x1 := HO7.out.cell (keepF HB6.out HX.out.2.1) (fun e => by omega)
          have x2 := HO7.out.cell (keepF HB6.out HX.out.2.2) (fun e => by omega)
          have hB26 := onF HB2.out HB6.out
          have z : ∀ k, k < 3 → (w6.setCell ⟨r, 0, none⟩ (.slice tb tn td)).cell? ⟨w.heap.size, k, none⟩ = some (.int .i64 0) ∧ (w6.setCell ⟨r, 0, none⟩ (.slice tb tn td)).frozen? ⟨w.heap.size, k, none⟩ = false := fun k hk => ⟨HO7.out.cell (keepF hB26 (HZ.out k hk).1) (fun e => by omega), (HO7.out.frozen (ltF (keepF hB26 (HZ.out k hk).1)) (fun e => by omega)).trans ((hB26.frozen (p := ⟨w.heap.size, k, none⟩) (ltF (HZ.out k hk).1)).trans (HZ.out k hk).2)⟩
          have z0 := (z 0 (by decide)).1
          have z1 := (z 1 (by decide)).1
          have z2 := (z 2 (by decide)).1
          have g0 := (z 0 (by decide)).2
          have g1 := (z 1 (by decide)).2
          have g2 := (z 2 (by decide)).2
          have hOf : Off (fun k => k = r) w (w6.setCell ⟨r, 0, none⟩ (.slice tb tn td)) := (Off.of (onF HB.out hB26)).both HO7.out
          have hRn : ∀ b o m c, Value.slice tb tn td = .slice (some ⟨b, o, none⟩) m c → L.take i ++ L.drop vc ≠ [] → b ≠ w.heap.size := own_ne HO6.out (by omega)
          have HOf := Lib.hid hOf
          have HRn2 := Lib.hid hRn
          clear z hOf hRn c0 f0 hs0 hs2 hrl
          generalize w6.setCell ⟨r, 0, none⟩ (.slice tb tn td) = W3 at *
          go_wp2_with fail
          have hrl := HRl.out
          have hs0 := HS0.out
          have hs2 := HSz.out
          exact bodyPost_ret (v := .tuple #[.agg #[.int .i64 x.d, .int .i64 x.no, .int .i64 x.tag], .int .i64 0]) (by simp [results, Try.results14, go_sem, z0, z1, z2]) rfl ⟨by rw [HZe.out]; rfl, ⟨_, by rw [HZe.out]; exact HR7.out.off ((Off.set W3 w.heap.size 0 _).both ((Off.set _ w.heap.size 1 _).both (Off.set _ w.heap.size 2 _))) (fun e => by omega) (fun b' o' m c e hne e' => HRn2.out b' o' m c e hne e')⟩, Off.set3 HOf.out (Nat.le_refl _) _ _ _⟩
        · have cv2 : ¬ vc = j := by omega
          go_upto_region 9 with (at_builtin; first | (refine wpList_append_x (E := itL) (k := 3) (fun _ => rfl) (by decide) itL_one Try.underlying27 infoRi rfl (by decide) rfl _ _ rfl W2.heap.size _ [] rfl (OwnX.nil _ _ _ _ _) _ (L.take i) rfl HHa.out.1 (by have := HLe.out; simp <;> omega) (Nat.le_refl _) ?_; intro v5 w5 ho5 hg5 hat5; rw [List.nil_append] at ho5; have HO5 := Lib.hid ho5; have HB5 : Hid (Below W2.heap.size W2 w5) := Lib.hid (Below.grown (Below.refl _ _) hg5 (Nat.le_refl _) (fun k hk => by cases hk)); have HR5 := Lib.hid (HR2.out.keep HB5.out); have HH5 := Lib.hid (HRw.out w5 (onF HB2.out HB5.out)); have c0 := HR5.out.c0; obtain ⟨sb, sn, sd, hsn, rfl⟩ : ∃ a n c, n = (L.take i).length ∧ v5 = Value.slice a n c := (by obtain ⟨a, c, h⟩ := ho5.slice; exact ⟨a, _, c, rfl, h⟩); clear hsn; clear ho5 hg5 hat5) | (refine wpList_append_x (E := itL) (k := 3) (fun _ => rfl) (by decide) itL_one Try.underlying27 infoRi rfl (by decide) rfl _ _ rfl W2.heap.size _ (L.take i) rfl HO5.out _ (L.drop j) rfl HH5.out.2 (by have := HLe.out; simp <;> omega) HB5.out.size ?_; intro v6 w6 ho6 hg6 hat6; have HO6 := Lib.hid ho6; have HB6 : Hid (Below W2.heap.size W2 w6) := Lib.hid (Below.grown HB5.out hg6 HB5.out.size (fun k hk => (HO5.out.lt k hk).1)); have HR6 := Lib.hid (HR2.out.keep HB6.out); have c0 := HR6.out.c0; have f0 := HR6.out.f0; obtain ⟨tb, tn, td, htn, rfl⟩ : ∃ a n c, n = (L.take i ++ L.drop j).length ∧ v6 = Value.slice a n c := (by obtain ⟨a, c, h⟩ := ho6.slice; exact ⟨a, _, c, rfl, h⟩); clear htn; clear ho6 hg6 hat6))
          have HR7 := Lib.hid (HR6.out.put (HO6.out.row (E := itL) (k := 3) itL_len) (own_av HO6.out (fun k hk => by have h1 := HAv.out k hk; have h2 := HSz.out; have h3 := HS0.out; omega)))
          have hrl := HRl.out
          have hs0 := HS0.out
          have hs2 := HSz.out
          have HO7 := Lib.hid (Off.set w6 r 0 (.slice tb tn td))
          have x0 := HO7.out.cell (keepF HB6.out HX.out.1) (fun e => by omega)
          have x1 := HO7.out.cell (keepF HB6.out HX.out.2.1) (fun e => by omega)
          have x2 := HO7.out.cell (keepF HB6.out HX.out.2.2) (fun e => by omega)
          have hB26 := onF HB2.out HB6.out
          have z : ∀ k, k < 3 → (w6.setCell ⟨r, 0, none⟩ (.slice tb tn td)).cell? ⟨w.heap.size, k, none⟩ = some (.int .i64 0) ∧ (w6.setCell ⟨r, 0, none⟩ (.slice tb tn td)).frozen? ⟨w.heap.size, k, none⟩ = false := fun k hk => ⟨HO7.out.cell (keepF hB26 (HZ.out k hk).1) (fun e => by omega), (HO7.out.frozen (ltF (keepF hB26 (HZ.out k hk).1)) (fun e => by omega)).trans ((hB26.frozen (p := ⟨w.heap.size, k, none⟩) (ltF (HZ.out k hk).1)).trans (HZ.out k hk).2)⟩
          have z0 := (z 0 (by decide)).1
          have z1 := (z 1 (by decide)).1
          have z2 := (z 2 (by decide)).1
          have g0 := (z 0 (by decide)).2
          have g1 := (z 1 (by decide)).2
          have g2 := (z 2 (by decide)).2
          have hOf : Off (fun k => k = r) w (w6.setCell ⟨r, 0, none⟩ (.slice tb tn td)) := (Off.of (onF HB.out hB26)).both HO7.out
          have hRn : ∀ b o m c, Value.slice tb tn td = .slice (some ⟨b, o, none⟩) m c → L.take i ++ L.drop j ≠ [] → b ≠ w.heap.size := own_ne HO6.out (by omega)
          have HOf := Lib.hid hOf
          have HRn2 := Lib.hid hRn
          clear z hOf hRn c0 f0 hs0 hs2 hrl
          generalize w6.setCell ⟨r, 0, none⟩ (.slice tb tn td) = W3 at *
          go_wp2_with fail
          have hrl := HRl.out
          have hs0 := HS0.out
          have hs2 := HSz.out
          exact bodyPost_ret (v := .tuple #[.agg #[.int .i64 x.d, .int .i64 x.no, .int .i64 x.tag], .int .i64 0]) (by simp [results, Try.results14, go_sem, z0, z1, z2]) rfl ⟨by rw [HZe.out]; rfl, ⟨_, by rw [HZe.out]; exact HR7.out.off ((Off.set W3 w.heap.size 0 _).both ((Off.set _ w.heap.size 1 _).both (Off.set _ w.heap.size 2 _))) (fun e => by omega) (fun b' o' m c e hne e' => HRn2.out b' o' m c e hne e')⟩, Off.set3 HOf.out (Nat.le_refl _) _ _ _⟩
      · have b1 : ((L.getD i default).no == no) = false := beq_false_of_ne hx
        have HNo : Hid (∀ j, j < i + 1 → (L.getD j default).no ≠ no) := Lib.hid (fun j hj => by
          by_cases e : j = i
          · subst e; exact hx
          · exact hno j (by omega))
        generalize (L.getD i default).no = yn at *
        clear hno hlt hT hx hi k0 k2
        go_wp2_with fail
        go_roundw
        case rel => exact ⟨i + 1, HLt.out, by go_num, HNo.out, by first | rfl | trivial⟩
        case measure => have := HLt.out; simp [RowKit.intOf]; omega
    · obtain rfl : i = L.length := by omega
      have i1 : ¬ (L.length : Int) < (L.length : Int) := by omega
      have HZe := Lib.hid (HDz.out.trans (find_end hno))
      have z0 := (HZ.out 0 (by decide)).1
      have z1 := (HZ.out 1 (by decide)).1
      have z2 := (HZ.out 2 (by decide)).1
      have g0 := (HZ.out 0 (by decide)).2
      have g1 := (HZ.out 1 (by decide)).2
      have g2 := (HZ.out 2 (by decide)).2
      clear hno hlt hi
      go_wp2_with fail
      have hS1 := HS1.out
      have hRl := HRl.out
      exact bodyPost_ret (v := .tuple #[.agg #[.int .i64 0, .int .i64 0, .int .i64 0], .int .i64 16]) (by simp [results, Try.results14, go_sem, z0, z1, z2]) rfl ⟨by rw [HZe.out]; rfl, ⟨_, by rw [HZe.out]; exact HR.out.off ((Off.set wr w.heap.size 0 _).both ((Off.set _ w.heap.size 1 _).both (Off.set _ w.heap.size 2 _))) (fun e => by omega) (fun b' o' m c e hne e' => HRn.out b' o' m c e hne e')⟩, Off.set3 (Off.of HB.out) (Nat.le_refl _) _ _ _⟩

end Go.Proofs.Ytkfcaafjnolhgaa
