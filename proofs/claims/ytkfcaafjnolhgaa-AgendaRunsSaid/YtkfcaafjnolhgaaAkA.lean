/-
  chattelref11.in: items in order, with one more.
-/
import Derived.Test.YtkfcaafjnolhgaaAhO
import Derived.Deep.RegionHeld3
namespace Go.Proofs.Ytkfcaafjnolhgaa
open Go.RowKit Go.Lib Go.Maps Go.Sort Go.Shelf
set_option linter.unusedVariables false
set_option linter.unusedSimpArgs false

theorem infoRi : (Try.prog.info? 37).map (fun i => (i.zero, i.size, i.bytes)) = some (some (.agg #[.int .i64 0, .int .i64 0, .int .i64 0]), 3, 24) := by kernel_rfl
theorem inI_go {l : List It} {x : It} {k : Nat} (h : inI x l = l.take k ++ inI x (l.drop k)) (hk : k < l.length) : (bfI (l.getD k default) x → inI x l = l.take (k + 1) ++ inI x (l.drop (k + 1))) ∧ (¬ bfI (l.getD k default) x → inI x l = l.take k ++ x :: l.drop k) := by
  have hd : l.drop k = l.getD k default :: l.drop (k + 1) := by
    rw [List.drop_eq_getElem_cons hk, List.getD_eq_getElem?_getD, List.getElem?_eq_getElem hk]; rfl
  constructor
  · intro c
    rw [h, hd, take_itm hk]
    conv => lhs; unfold inI
    rw [if_pos c, List.append_assoc]; rfl
  · intro c
    rw [h, hd]
    conv => lhs; unfold inI
    rw [if_neg c]
theorem inI_end {l : List It} {x : It} (h : inI x l = l.take l.length ++ inI x (l.drop l.length)) : inI x l = l.take l.length ++ x :: l.drop l.length := by
  rw [h, List.drop_length]; rfl
theorem RowX.head {α : Type} [Inhabited α] {E : α → List Value} {n : Nat} {w : World} {b o cap : Nat} {m : List α} (hc : m.length ≤ cap) (hm : cap ≤ 9223372036854775807) (h : ∀ j, j < m.length → ∀ i c, i < n → (E (m.getD j default))[i]? = some c → w.cell? ⟨b, o + j * n + i, none⟩ = some c) {k : Nat} (hk : k ≤ m.length) :
    RowX E n w (.slice (some ⟨b, o, none⟩) k cap) (m.take k) := by
  have hl : (m.take k).length = k := by rw [List.length_take]; omega
  by_cases h0 : k = 0
  · subst h0; exact .inl ⟨by simp, _, _, rfl⟩
  · refine .inr ⟨by omega, b, o, cap, by rw [hl], by omega, hm, fun j hj i c hi he => h j (by omega) i c hi ?_⟩
    rw [← he, List.getD_eq_getElem?_getD, List.getD_eq_getElem?_getD, List.getElem?_take_of_lt (by omega)]
theorem RowX.tail {α : Type} [Inhabited α] {E : α → List Value} {n : Nat} {w : World} {b o cap : Nat} {m : List α} (hc : m.length ≤ cap) (hm : cap ≤ 9223372036854775807) (h : ∀ j, j < m.length → ∀ i c, i < n → (E (m.getD j default))[i]? = some c → w.cell? ⟨b, o + j * n + i, none⟩ = some c) {k : Nat} (hk : k ≤ m.length) :
    RowX E n w (.slice (some ⟨b, o + k * n, none⟩) (m.length - k) (cap - k)) (m.drop k) := by
  have hl : (m.drop k).length = m.length - k := List.length_drop ..
  by_cases h0 : m.length - k = 0
  · rw [h0]; exact .inl ⟨List.length_eq_zero_iff.1 (by omega), _, _, rfl⟩
  · refine .inr ⟨by omega, b, o + k * n, cap - k, by rw [hl], by omega, by omega, fun j hj i c hi he => ?_⟩
    have := h (k + j) (by omega) i c hi (by rw [← he, List.getD_eq_getElem?_getD, List.getD_eq_getElem?_getD, List.getElem?_drop])
    rw [Nat.add_mul, ← Nat.add_assoc] at this
    exact this
set_option maxRecDepth 100000 in
set_option maxHeartbeats 4000000 in
theorem rin_any (w : World) (l : List It) (hl : l.length ≤ 1000) (v : Value) (h : RowX itL 3 w v l) (x : It) :
    Calls Try.prog 27 #[v, .agg #[.int .i64 x.d, .int .i64 x.no, .int .i64 x.tag]] w fun e w' => ∃ v', e = .returned v' ∧ OwnX itL 3 37 w' w.heap.size v' (inI x l) ∧ Below w.heap.size w w' := by
  obtain ⟨va, vc, rfl⟩ := h.slice
  have hb0 := newF w (.cells #[.int .i64 x.d, .int .i64 x.no, .int .i64 x.tag] 37)
  have kx : ∀ k v, (#[.int .i64 x.d, .int .i64 x.no, .int .i64 x.tag] : Array Value)[k]? = some v → (w.alloc (.cells #[.int .i64 x.d, .int .i64 x.no, .int .i64 x.tag] 37)).cell? ⟨w.heap.size, k, none⟩ = some v := fun k v hv => by rw [World.cell?_alloc_at _ _ _ _ rfl]; exact hv
  have HK := Lib.hid (And.intro (kx 0 _ rfl) (And.intro (kx 1 _ rfl) (kx 2 _ rfl)))
  have HB0 := Lib.hid hb0
  have HS := Lib.hid (h.keep hb0)
  have HLx : Hid (itL x = [.int .i64 x.d, .int .i64 x.no, .int .i64 x.tag]) := Lib.hid rfl
  have HLe := Lib.hid hl
  clear hb0 kx h
  go_enter Try.func27, Try.ntmps27
  go_wp2_with fail
  generalize w.alloc (.cells #[.int .i64 x.d, .int .i64 x.no, .int .i64 x.tag] 37) = w0 at *
  go_loopw [5] (fun vi wx => ∃ k : Nat, k ≤ l.length ∧ vi = .int .i64 (k : Nat) ∧ inI x l = l.take k ++ inI x (l.drop k) ∧ Below w0.heap.size w0 wx) (fun vi _ => l.length - (RowKit.intOf vi).toNat)
  case atStart => exact ⟨0, Nat.zero_le _, rfl, rfl, Below.refl _ _⟩
  case round =>
    obtain ⟨k, hk, rfl, hp, hb⟩ := hrel
    have HB := Lib.hid hb
    have HP := Lib.hid hp
    have x0 := keepF hb HK.out.1
    have x1 := keepF hb HK.out.2.1
    have x2 := keepF hb HK.out.2.2
    have HBn := Lib.hid (fun q => hb.trans ((below_drewA wr q).mono hb.size))
    by_cases hlt : k < l.length
    · have p0 : (0 : Int) ≤ (k : Int) := by omega
      have p1 : (k : Int) < (l.length : Int) := by omega
      have hd1 : decide (k < l.length) = true := decide_eq_true hlt
      obtain ⟨g, o, cap, hv, hc1, hc2, hT⟩ : ∃ g o cap, Value.slice va l.length vc = .slice (some ⟨g, o, none⟩) l.length cap ∧ l.length ≤ cap ∧ cap ≤ 9223372036854775807 ∧ ∀ j, j < l.length → ∀ i c, i < 3 → (itL (l.getD j default))[i]? = some c → w0.cell? ⟨g, o + j * 3 + i, none⟩ = some c := by
        rcases HS.out with ⟨e, _⟩ | ⟨_, g, o, cap, h1, h2, h3, h4⟩
        · rw [e] at hlt; exact absurd hlt (Nat.not_lt_zero _)
        · exact ⟨g, o, cap, h1, h2, h3, h4⟩
      injection hv with hv1 _ hv3
      subst hv1 hv3
      have k0 : wr.cell? ⟨g, o + k * 3, none⟩ = some (.int .i64 (l.getD k default).d) := keepF hb (hT k hlt 0 _ (by omega) rfl)
      have k1 : wr.cell? ⟨g, o + k * 3 + 1, none⟩ = some (.int .i64 (l.getD k default).no) := keepF hb (hT k hlt 1 _ (by omega) rfl)
      have HGo := Lib.hid (inI_go hp hlt)
      have HLt := Lib.hid hlt
      have hkl : k ≤ l.length := by omega
      have HRw := Lib.hid (fun (wx : World) (hb : Below w0.heap.size w0 wx) => And.intro (RowX.head (E := itL) (n := 3) hc1 hc2 (fun j hj i c hi he => keepF hb (hT j hj i c hi he)) hkl) (RowX.tail (E := itL) (n := 3) hc1 hc2 (fun j hj i c hi he => keepF hb (hT j hj i c hi he)) hkl))
      generalize l.getD k default = y at *
      clear hlt hT hb hp
      by_cases c1 : y.d < x.d
      · have HY := Lib.hid (HGo.out.1 (Or.inl c1))
        have d1 : decide (y.d < x.d) = true := decide_eq_true c1
        clear c1
        clear HRw
        go_wp2_with fail
        go_quiet (fail)
        go_wp2_with fail
        go_roundw
        case rel => exact ⟨k + 1, HLt.out, by go_num, HY.out, HBn.out _⟩
        case measure => have := HLt.out; simp [RowKit.intOf]; omega
      have d1 : decide (y.d < x.d) = false := decide_eq_false c1
      by_cases c2 : y.d = x.d
      · have d2 : (y.d == x.d) = true := by simpa using c2
        by_cases c3 : y.no < x.no
        · have HY := Lib.hid (HGo.out.1 (Or.inr ⟨c2, c3⟩))
          have d3 : decide (y.no < x.no) = true := decide_eq_true c3
          clear c1 c2 c3
          clear HRw
          go_wp2_with fail
          go_quiet (fail)
          go_wp2_with fail
          go_roundw
          case rel => exact ⟨k + 1, HLt.out, by go_num, HY.out, HBn.out _⟩
          case measure => have := HLt.out; simp [RowKit.intOf]; omega
        · have HY := Lib.hid (HGo.out.2 (fun h => h.elim c1 (fun h => c3 h.2)))
          have d3 : decide (y.no < x.no) = false := decide_eq_false c3
          clear c1 c2 c3
          go_wp2_with fail
          go_quiet (fail)
          have HB4 : Hid (Below w0.heap.size w0 (wr.drewN nq)) := Lib.hid (HBn.out nq)
          generalize wr.drewN nq = w4 at *
          have HH := Lib.hid (HRw.out w4 HB4.out)
          go_wp2_with (at_builtin; first | (refine wpList_append_x (E := itL) (k := 3) (fun _ => rfl) (by decide) itL_one Try.underlying27 infoRi rfl (by decide) rfl _ _ rfl w0.heap.size _ [] rfl (OwnX.nil _ _ _ _ _) _ (l.take k) rfl HH.out.1 (by have := HLe.out; simp <;> omega) HB4.out.size ?_; intro v5 w5 ho5 hg5 hat5; rw [List.nil_append] at ho5; have HO5 := Lib.hid ho5; have HB5 : Hid (Below w0.heap.size w0 w5) := Lib.hid (Below.grown HB4.out hg5 HB4.out.size (fun k hk => by cases hk)); have x0 := keepF HB5.out HK.out.1; have x1 := keepF HB5.out HK.out.2.1; have x2 := keepF HB5.out HK.out.2.2; obtain ⟨sb, sn, sd, hsn, rfl⟩ : ∃ a n c, n = (l.take k).length ∧ v5 = Value.slice a n c := (by obtain ⟨a, c, h⟩ := ho5.slice; exact ⟨a, _, c, rfl, h⟩); clear hsn; clear ho5 hg5 hat5) | (refine wpList_append_x (E := itL) (k := 3) (fun _ => rfl) (by decide) itL_one Try.underlying27 infoRi rfl (by decide) rfl _ _ rfl w0.heap.size _ (l.take k) rfl (HO5.out.grown (newF w5 _)) _ [x] rfl (rowx_new (E := itL) (k := 3) (fun _ => rfl) w5 x #[.int .i64 x.d, .int .i64 x.no, .int .i64 x.tag] (by rfl) 37 _ rfl) (by have := HLe.out; simp <;> omega) (Nat.le_trans HB5.out.size (by simp)) ?_; intro v6 w6 ho6 hg6 hat6; have HO6 := Lib.hid ho6; have HB6 : Hid (Below w0.heap.size w0 w6) := Lib.hid (Below.grown (Below.alloc HB5.out HB5.out.size _) hg6 (Nat.le_trans HB5.out.size (by simp)) (fun k hk => (HO5.out.lt k hk).1)); have HH6 := Lib.hid (HRw.out w6 HB6.out); obtain ⟨tb, tn, td, htn, rfl⟩ : ∃ a n c, n = (l.take k ++ [x]).length ∧ v6 = Value.slice a n c := (by obtain ⟨a, c, h⟩ := ho6.slice; exact ⟨a, _, c, rfl, h⟩); clear htn; clear ho6 hg6 hat6) | (refine wpList_append_x (E := itL) (k := 3) (fun _ => rfl) (by decide) itL_one Try.underlying27 infoRi rfl (by decide) rfl _ _ rfl w0.heap.size _ (l.take k ++ [x]) rfl HO6.out _ (l.drop k) rfl HH6.out.2 (by have := HLe.out; simp <;> omega) HB6.out.size ?_; intro v7 w7 ho7 hg7 hat7; have HO7 := Lib.hid ho7; have HB7 : Hid (Below w0.heap.size w0 w7) := Lib.hid (Below.grown HB6.out hg7 HB6.out.size (fun k hk => (HO6.out.lt k hk).1)); clear ho7 hg7 hat7))
          all_goals
            go_ret
            exact ⟨_, rfl, by rw [HY.out]; have := HO7.out.base HB0.out.size; rw [List.append_assoc] at this; exact this, onF HB0.out HB7.out⟩
      · have d2 : (y.d == x.d) = false := beq_false_of_ne c2
        have HY := Lib.hid (HGo.out.2 (fun h => h.elim c1 (fun h => c2 h.1)))
        clear c1 c2
        go_wp2_with fail
        go_quiet (fail)
        have HB4 : Hid (Below w0.heap.size w0 (wr.drewN nq)) := Lib.hid (HBn.out nq)
        generalize wr.drewN nq = w4 at *
        have HH := Lib.hid (HRw.out w4 HB4.out)
        go_wp2_with (at_builtin; first | (refine wpList_append_x (E := itL) (k := 3) (fun _ => rfl) (by decide) itL_one Try.underlying27 infoRi rfl (by decide) rfl _ _ rfl w0.heap.size _ [] rfl (OwnX.nil _ _ _ _ _) _ (l.take k) rfl HH.out.1 (by have := HLe.out; simp <;> omega) HB4.out.size ?_; intro v5 w5 ho5 hg5 hat5; rw [List.nil_append] at ho5; have HO5 := Lib.hid ho5; have HB5 : Hid (Below w0.heap.size w0 w5) := Lib.hid (Below.grown HB4.out hg5 HB4.out.size (fun k hk => by cases hk)); have x0 := keepF HB5.out HK.out.1; have x1 := keepF HB5.out HK.out.2.1; have x2 := keepF HB5.out HK.out.2.2; obtain ⟨sb, sn, sd, hsn, rfl⟩ : ∃ a n c, n = (l.take k).length ∧ v5 = Value.slice a n c := (by obtain ⟨a, c, h⟩ := ho5.slice; exact ⟨a, _, c, rfl, h⟩); clear hsn; clear ho5 hg5 hat5) | (refine wpList_append_x (E := itL) (k := 3) (fun _ => rfl) (by decide) itL_one Try.underlying27 infoRi rfl (by decide) rfl _ _ rfl w0.heap.size _ (l.take k) rfl (HO5.out.grown (newF w5 _)) _ [x] rfl (rowx_new (E := itL) (k := 3) (fun _ => rfl) w5 x #[.int .i64 x.d, .int .i64 x.no, .int .i64 x.tag] (by rfl) 37 _ rfl) (by have := HLe.out; simp <;> omega) (Nat.le_trans HB5.out.size (by simp)) ?_; intro v6 w6 ho6 hg6 hat6; have HO6 := Lib.hid ho6; have HB6 : Hid (Below w0.heap.size w0 w6) := Lib.hid (Below.grown (Below.alloc HB5.out HB5.out.size _) hg6 (Nat.le_trans HB5.out.size (by simp)) (fun k hk => (HO5.out.lt k hk).1)); have HH6 := Lib.hid (HRw.out w6 HB6.out); obtain ⟨tb, tn, td, htn, rfl⟩ : ∃ a n c, n = (l.take k ++ [x]).length ∧ v6 = Value.slice a n c := (by obtain ⟨a, c, h⟩ := ho6.slice; exact ⟨a, _, c, rfl, h⟩); clear htn; clear ho6 hg6 hat6) | (refine wpList_append_x (E := itL) (k := 3) (fun _ => rfl) (by decide) itL_one Try.underlying27 infoRi rfl (by decide) rfl _ _ rfl w0.heap.size _ (l.take k ++ [x]) rfl HO6.out _ (l.drop k) rfl HH6.out.2 (by have := HLe.out; simp <;> omega) HB6.out.size ?_; intro v7 w7 ho7 hg7 hat7; have HO7 := Lib.hid ho7; have HB7 : Hid (Below w0.heap.size w0 w7) := Lib.hid (Below.grown HB6.out hg7 HB6.out.size (fun k hk => (HO6.out.lt k hk).1)); clear ho7 hg7 hat7))
        all_goals
          go_ret
          exact ⟨_, rfl, by rw [HY.out]; have := HO7.out.base HB0.out.size; rw [List.append_assoc] at this; exact this, onF HB0.out HB7.out⟩
    · have hke : k = l.length := by omega
      subst hke
      have p1 : ¬ (l.length : Int) < (l.length : Int) := by omega
      have hd1 : decide (l.length < l.length) = false := decide_eq_false (Nat.lt_irrefl _)
      have HY := Lib.hid (inI_end hp)
      rcases HS.out with ⟨hnil, a, c, hv⟩ | ⟨h0, g, o, cap, hv, hc1, hc2, hT⟩
      · subst hnil
        injection hv with hv1 _ hv3
        subst hv1 hv3
        have HY : Hid (inI x [] = (([] : List It).take 0) ++ x :: (([] : List It).drop 0)) := HY
        have HRw : Hid (∀ wx, Below w0.heap.size w0 wx → RowX itL 3 wx (.slice va 0 vc) (([] : List It).take 0) ∧ RowX itL 3 wx (.slice va 0 vc) (([] : List It).drop 0)) := Lib.hid (fun wx _ => ⟨.inl ⟨rfl, _, _, rfl⟩, .inl ⟨rfl, _, _, rfl⟩⟩)
        clear hb hp hlt hk x0 x1 x2
        simp only [List.length_nil] at *
        go_wp2_with fail
        go_quiet (fail)
        have HB4 : Hid (Below w0.heap.size w0 (wr.drewN nq)) := Lib.hid (HBn.out nq)
        generalize wr.drewN nq = w4 at *
        go_wp2_with (at_builtin; first | (refine wpList_append_x (E := itL) (k := 3) (fun _ => rfl) (by decide) itL_one Try.underlying27 infoRi rfl (by decide) rfl _ _ rfl w0.heap.size _ [] rfl (OwnX.nil _ _ _ _ _) _ (([] : List It)) rfl (.inl ⟨rfl, _, _, rfl⟩) (by have := HLe.out; simp <;> omega) HB4.out.size ?_; intro v5 w5 ho5 hg5 hat5; rw [List.nil_append] at ho5; have HO5 := Lib.hid ho5; have HB5 : Hid (Below w0.heap.size w0 w5) := Lib.hid (Below.grown HB4.out hg5 HB4.out.size (fun k hk => by cases hk)); have x0 := keepF HB5.out HK.out.1; have x1 := keepF HB5.out HK.out.2.1; have x2 := keepF HB5.out HK.out.2.2; obtain ⟨sb, sn, sd, hsn, rfl⟩ : ∃ a n c, n = (([] : List It)).length ∧ v5 = Value.slice a n c := (by obtain ⟨a, c, h⟩ := ho5.slice; exact ⟨a, _, c, rfl, h⟩); clear hsn; clear ho5 hg5 hat5) | (refine wpList_append_x (E := itL) (k := 3) (fun _ => rfl) (by decide) itL_one Try.underlying27 infoRi rfl (by decide) rfl _ _ rfl w0.heap.size _ (([] : List It)) rfl (HO5.out.grown (newF w5 _)) _ [x] rfl (rowx_new (E := itL) (k := 3) (fun _ => rfl) w5 x #[.int .i64 x.d, .int .i64 x.no, .int .i64 x.tag] (by rfl) 37 _ rfl) (by have := HLe.out; simp <;> omega) (Nat.le_trans HB5.out.size (by simp)) ?_; intro v6 w6 ho6 hg6 hat6; have HO6 := Lib.hid ho6; have HB6 : Hid (Below w0.heap.size w0 w6) := Lib.hid (Below.grown (Below.alloc HB5.out HB5.out.size _) hg6 (Nat.le_trans HB5.out.size (by simp)) (fun k hk => (HO5.out.lt k hk).1)); obtain ⟨tb, tn, td, htn, rfl⟩ : ∃ a n c, n = (([] : List It) ++ [x]).length ∧ v6 = Value.slice a n c := (by obtain ⟨a, c, h⟩ := ho6.slice; exact ⟨a, _, c, rfl, h⟩); clear htn; clear ho6 hg6 hat6) | (refine wpList_append_x (E := itL) (k := 3) (fun _ => rfl) (by decide) itL_one Try.underlying27 infoRi rfl (by decide) rfl _ _ rfl w0.heap.size _ (([] : List It) ++ [x]) rfl HO6.out _ (([] : List It)) rfl (.inl ⟨rfl, _, _, rfl⟩) (by have := HLe.out; simp <;> omega) HB6.out.size ?_; intro v7 w7 ho7 hg7 hat7; have HO7 := Lib.hid ho7; have HB7 : Hid (Below w0.heap.size w0 w7) := Lib.hid (Below.grown HB6.out hg7 HB6.out.size (fun k hk => (HO6.out.lt k hk).1)); clear ho7 hg7 hat7))
        all_goals
          go_ret
          exact ⟨_, rfl, by rw [HY.out]; have := HO7.out.base HB0.out.size; rw [List.append_assoc] at this; exact this, onF HB0.out HB7.out⟩
      · injection hv with hv1 _ hv3
        subst hv1 hv3
        have hkl : l.length ≤ l.length := Nat.le_refl _
        have HRw := Lib.hid (fun (wx : World) (hb : Below w0.heap.size w0 wx) => And.intro (RowX.head (E := itL) (n := 3) hc1 hc2 (fun j hj i c hi he => keepF hb (hT j hj i c hi he)) hkl) (RowX.tail (E := itL) (n := 3) hc1 hc2 (fun j hj i c hi he => keepF hb (hT j hj i c hi he)) hkl))
        clear hb hp hlt hk hT hkl
        go_wp2_with fail
        go_quiet (fail)
        have HB4 : Hid (Below w0.heap.size w0 (wr.drewN nq)) := Lib.hid (HBn.out nq)
        generalize wr.drewN nq = w4 at *
        have HH := Lib.hid (HRw.out w4 HB4.out)
        go_wp2_with (at_builtin; first | (refine wpList_append_x (E := itL) (k := 3) (fun _ => rfl) (by decide) itL_one Try.underlying27 infoRi rfl (by decide) rfl _ _ rfl w0.heap.size _ [] rfl (OwnX.nil _ _ _ _ _) _ (l.take l.length) rfl HH.out.1 (by have := HLe.out; simp <;> omega) HB4.out.size ?_; intro v5 w5 ho5 hg5 hat5; rw [List.nil_append] at ho5; have HO5 := Lib.hid ho5; have HB5 : Hid (Below w0.heap.size w0 w5) := Lib.hid (Below.grown HB4.out hg5 HB4.out.size (fun k hk => by cases hk)); have x0 := keepF HB5.out HK.out.1; have x1 := keepF HB5.out HK.out.2.1; have x2 := keepF HB5.out HK.out.2.2; obtain ⟨sb, sn, sd, hsn, rfl⟩ : ∃ a n c, n = (l.take l.length).length ∧ v5 = Value.slice a n c := (by obtain ⟨a, c, h⟩ := ho5.slice; exact ⟨a, _, c, rfl, h⟩); clear hsn; clear ho5 hg5 hat5) | (refine wpList_append_x (E := itL) (k := 3) (fun _ => rfl) (by decide) itL_one Try.underlying27 infoRi rfl (by decide) rfl _ _ rfl w0.heap.size _ (l.take l.length) rfl (HO5.out.grown (newF w5 _)) _ [x] rfl (rowx_new (E := itL) (k := 3) (fun _ => rfl) w5 x #[.int .i64 x.d, .int .i64 x.no, .int .i64 x.tag] (by rfl) 37 _ rfl) (by have := HLe.out; simp <;> omega) (Nat.le_trans HB5.out.size (by simp)) ?_; intro v6 w6 ho6 hg6 hat6; have HO6 := Lib.hid ho6; have HB6 : Hid (Below w0.heap.size w0 w6) := Lib.hid (Below.grown (Below.alloc HB5.out HB5.out.size _) hg6 (Nat.le_trans HB5.out.size (by simp)) (fun k hk => (HO5.out.lt k hk).1)); have HH6 := Lib.hid (HRw.out w6 HB6.out); obtain ⟨tb, tn, td, htn, rfl⟩ : ∃ a n c, n = (l.take l.length ++ [x]).length ∧ v6 = Value.slice a n c := (by obtain ⟨a, c, h⟩ := ho6.slice; exact ⟨a, _, c, rfl, h⟩); clear htn; clear ho6 hg6 hat6) | (refine wpList_append_x (E := itL) (k := 3) (fun _ => rfl) (by decide) itL_one Try.underlying27 infoRi rfl (by decide) rfl _ _ rfl w0.heap.size _ (l.take l.length ++ [x]) rfl HO6.out _ (l.drop l.length) rfl (by first | exact HH6.out.2 | (rw [List.drop_length]; exact .inl ⟨rfl, _, _, rfl⟩)) (by have := HLe.out; simp <;> omega) HB6.out.size ?_; intro v7 w7 ho7 hg7 hat7; have HO7 := Lib.hid ho7; have HB7 : Hid (Below w0.heap.size w0 w7) := Lib.hid (Below.grown HB6.out hg7 HB6.out.size (fun k hk => (HO6.out.lt k hk).1)); clear ho7 hg7 hat7))
        all_goals
          go_ret
          exact ⟨_, rfl, by rw [HY.out]; have := HO7.out.base HB0.out.size; rw [List.append_assoc] at this; exact this, onF HB0.out HB7.out⟩

end Go.Proofs.Ytkfcaafjnolhgaa
