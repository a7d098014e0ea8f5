/-
  Package value: Needs: what it answers.
-/
import Derived.Test.YtgeneoamngfomaaGreatDoorVlH
import Derived.Test.YtgeneoamngfomaaGreatDoorTrm
import Derived.Laws.Cells
namespace Go.Proofs.YtgeneoamngfomaaGreatDoor
open Go.RowKit Go.Lib Go.Shelf Go.Maps
set_option linter.unusedVariables false
set_option linter.unusedSimpArgs false

theorem run_load64 (w : World) (X : Nat) (f : Nat → Bool) (hf : ∀ m, m < 64 → w.cell? ⟨X, m, none⟩ = some (.bool (f m))) : (loadVar 263 ⟨X, 0, none⟩).run Tryz.prog w = .ok (.agg ((List.range 64).map fun m => Value.bool (f m)).toArray) w := by
  have hl := run_loadCells (P := Tryz.prog) w ⟨X, 0, none⟩ 64 (fun m => .bool (f m)) (fun j hj => by rw [Go.WideShapes.add_plain, Nat.zero_add]; exact hf j hj)
  simp only [loadVar, Sem.run_bind, Tryz.isAgg263, Tryz.sizeOf263, Result.andThen_ok, if_true, hl, Sem.run_pure]
theorem wpList_load64 {w : World} {ops : Array Oper} {rest : List Oper} {o : Oper} {a : Act} {Q : Exit → Act → World → Prop} (hgd : o.guard = none) (x : Operand) (ho : o.op = .load 263 x) (X : Nat) (hx : a.eval x = .pointer (some ⟨X, 0, none⟩)) (f : Nat → Bool) (hf : ∀ m, m < 64 → w.cell? ⟨X, m, none⟩ = some (.bool (f m)))
    (h : ∀ A : Array Value, (∀ m, m < 64 → A[m]? = some (.bool (f m))) → wpList Tryz.prog ops Q rest (a.put o.dst (.agg A)) w) : wpList Tryz.prog ops Q (o :: rest) a w :=
  wpList_plain hgd fun _ hK => by
    have hrun := run_load64 w X f hf
    unfold Oper.wp execOp
    simp only [ho, hx, Instr.loadAt, Instr.sureAddr, Sem.run_bind, Sem.run_pure, Result.andThen_ok, hrun]
    exact hK _ _ (h _ (fun m hm => by simp [hm]))
theorem run_index64 (w : World) (A : Array Value) (k : Nat) (hk : k < 64) (b : Bool) (h : A[k]? = some (.bool b)) : (Instr.index 263 (.agg A) (.int .i64 (k : Int))).run Tryz.prog w = .ok (.bool b) w := by
  simp [Instr.index, run_underlying Tryz.underlying263, asIntOf, part, go_sem, h, hk]
/-- Which keys were asked for so far. -/
structure AskS (w : World) (X : Nat) (U : List Nd) (i : Nat) (wx : World) : Prop where
  cl : ∀ m, m < 64 → wx.cell? ⟨X, m, none⟩ = some (.bool (isN U (pT 2 2) m i))
  fz : ∀ m, wx.frozen? ⟨X, m, none⟩ = false
  bel : Below w.heap.size w wx
theorem AskS.new (w : World) (U : List Nd) : AskS w w.heap.size U 0 (w.alloc (.cells #[.bool false, .bool false, .bool false, .bool false, .bool false, .bool false, .bool false, .bool false, .bool false, .bool false, .bool false, .bool false, .bool false, .bool false, .bool false, .bool false, .bool false, .bool false, .bool false, .bool false, .bool false, .bool false, .bool false, .bool false, .bool false, .bool false, .bool false, .bool false, .bool false, .bool false, .bool false, .bool false, .bool false, .bool false, .bool false, .bool false, .bool false, .bool false, .bool false, .bool false, .bool false, .bool false, .bool false, .bool false, .bool false, .bool false, .bool false, .bool false, .bool false, .bool false, .bool false, .bool false, .bool false, .bool false, .bool false, .bool false, .bool false, .bool false, .bool false, .bool false, .bool false, .bool false, .bool false, .bool false] 263)) := by
  refine ⟨fun m hm => ?_, fun m => World.frozen?_alloc_at _ _ _ _ rfl, newF _ _⟩
  rw [World.cell?_alloc_at _ _ _ _ rfl]
  show (#[.bool false, .bool false, .bool false, .bool false, .bool false, .bool false, .bool false, .bool false, .bool false, .bool false, .bool false, .bool false, .bool false, .bool false, .bool false, .bool false, .bool false, .bool false, .bool false, .bool false, .bool false, .bool false, .bool false, .bool false, .bool false, .bool false, .bool false, .bool false, .bool false, .bool false, .bool false, .bool false, .bool false, .bool false, .bool false, .bool false, .bool false, .bool false, .bool false, .bool false, .bool false, .bool false, .bool false, .bool false, .bool false, .bool false, .bool false, .bool false, .bool false, .bool false, .bool false, .bool false, .bool false, .bool false, .bool false, .bool false, .bool false, .bool false, .bool false, .bool false, .bool false, .bool false, .bool false, .bool false] : Array Value)[m]? = some (.bool false)
  rw [show (#[.bool false, .bool false, .bool false, .bool false, .bool false, .bool false, .bool false, .bool false, .bool false, .bool false, .bool false, .bool false, .bool false, .bool false, .bool false, .bool false, .bool false, .bool false, .bool false, .bool false, .bool false, .bool false, .bool false, .bool false, .bool false, .bool false, .bool false, .bool false, .bool false, .bool false, .bool false, .bool false, .bool false, .bool false, .bool false, .bool false, .bool false, .bool false, .bool false, .bool false, .bool false, .bool false, .bool false, .bool false, .bool false, .bool false, .bool false, .bool false, .bool false, .bool false, .bool false, .bool false, .bool false, .bool false, .bool false, .bool false, .bool false, .bool false, .bool false, .bool false, .bool false, .bool false, .bool false, .bool false] : Array Value) = Array.replicate 64 (.bool false) from rfl, Array.getElem?_replicate, if_pos hm]
theorem AskS.keep {w wx wy : World} {X i : Nat} {U : List Nd} (h : AskS w X U i wx) (hb : Below wx.heap.size wx wy) : AskS w X U i wy := by
  have h0 := ltF (h.cl 0 (by decide))
  exact ⟨fun m hm => keepF hb (h.cl m hm), fun m => (hb.frozen (p := ⟨X, m, none⟩) h0).trans (h.fz m), onF h.bel hb⟩
theorem AskS.no {w wx : World} {X i : Nat} {U : List Nd} (h : AskS w X U i wx) (ho : opA U i ≠ 2) : AskS w X U (i + 1) wx := by
  refine ⟨fun m hm => ?_, h.fz, h.bel⟩
  have e : isN U (pT 2 2) m (i + 1) = isN U (pT 2 2) m i := by
    show (isN U (pT 2 2) m i || (pT 2 2 (opA U i) && decide (aA U i = (m : Int)))) = _
    unfold pT
    rw [decide_eq_false ho]; simp
  rw [e]; exact h.cl m hm
theorem AskS.yes {w wx : World} {X i k : Nat} {U : List Nd} (h : AskS w X U i wx) (hX : w.heap.size ≤ X) (ho : opA U i = 2) (ha : aA U i = (k : Int)) : AskS w X U (i + 1) (wx.setCell ⟨X, k, none⟩ (.bool true)) := by
  have e : ∀ m : Nat, isN U (pT 2 2) m (i + 1) = (isN U (pT 2 2) m i || decide (k = m)) := fun m => by
    show (isN U (pT 2 2) m i || (pT 2 2 (opA U i) && decide (aA U i = (m : Int)))) = _
    unfold pT
    rw [ho, ha]
    have hkm : ((k : Int) = (m : Int)) ↔ (k = m) := Int.ofNat_inj
    simp [hkm]
  refine ⟨fun m hm => ?_, fun m => by rw [World.frozen?_setCell]; exact h.fz m, ?_⟩
  · rw [e]
    by_cases c : k = m
    · subst c
      rw [cell_same (h.cl k hm)]; simp
    · rw [cell_other (addr_ne_off c), decide_eq_false c, Bool.or_false]
      exact h.cl m hm
  · refine Below.setCell h.bel ?_ _
    exact hX
set_option maxRecDepth 100000 in
set_option maxHeartbeats 4000000 in
theorem needs_any (t : List Nd) (hl : t.length ≤ 1000) (hbd : BdT t) (v : Value) (w : World) (hv : SlT w v t) (C : KndW w) (p : Int) :
    Calls Tryz.prog 163 #[v, .int .i64 p] w fun e w' => ((wrN t p ≠ 0 ∧ e = .returned (.tuple #[.slice none 0 0, .int .i64 (wrN t p)])) ∨ (wrN t p = 0 ∧ ∃ v', e = .returned (.tuple #[v', .int .i64 0]) ∧ YtgeneoamngfomaaGreatDoor.Own w' w.heap.size v' (kyN (subT t p.toNat (szA t p.toNat)) (pT 2 2) 64))) ∧ Below w.heap.size w w' := by
  have HNm := Lib.hid (number_any t hl hbd v w hv C p)
  obtain ⟨va, vn, vc, rfl⟩ : ∃ a n c, v = .slice a n c := by
    rcases hv with ⟨_, a, c, rfl⟩ | ⟨_, b, o, c, rfl, _⟩
    · exact ⟨_, _, _, rfl⟩
    · exact ⟨_, _, _, rfl⟩
  by_cases h0 : wrN t p = 0
  · obtain ⟨z1, n, rfl, hn, hm⟩ := wrN_zero h0
    obtain ⟨k1, k2, k3, k4, k5⟩ := ofK_zero z1
    have hT := k2.all n hn
    have hb := hT.bd
    have HKy := Lib.hid (fun q (hq : q < t.length) (e : opA t q = 2) => fld_key k3 hq (.inl e))
    have HW0 := Lib.hid h0
    rw [h0] at HNm
    rw [Int.toNat_natCast]
    have HL := Lib.hid (show t.length ≤ 64 ∧ n + szA t n ≤ t.length from ⟨k1, hb.2⟩)
    clear hv C hbd h0 z1 hm k1 k2 k3 k4 k5 hT hb
    go_enter Tryz.func163, Tryz.ntmps163
    go_wp2_with fail
    refine (HNm.out).mono ?_
    rintro e w1 ⟨⟨u, rfl, _, hu⟩, hb1⟩
    obtain ⟨n', b, o, cap, hnn, _, rfl, _, hc1, hc2, hN⟩ := hu (by first | rfl | trivial)
    obtain rfl : n' = n := by omega
    have HN := Lib.hid (sub_nd (hN.keep hb1) HL.out.2)
    have HB1 := Lib.hid hb1
    have HUl := Lib.hid (subT_len HL.out.2)
    clear hu hnn hN hb1 HNm
    go_wp2_with fail
    have HA0 := Lib.hid (AskS.new w1 (subT t n' (szA t n')))
    have HX : Hid (w1.heap.size ≤ w1.heap.size) := Lib.hid (Nat.le_refl _)
    have HKu := Lib.hid (fun i (hi : i < szA t n') (e : opA (subT t n' (szA t n')) i = 2) => by
      have h1 := subT_op (i := i) HL.out.2 hi
      have h2 := subT_get (i := i) HL.out.2 hi
      have := HKy.out (n' + i) (by have := HL.out; omega) (by rw [← h1]; exact e)
      unfold aA at this
      rw [← h2] at this
      exact this)
    generalize w1.alloc (.cells #[.bool false, .bool false, .bool false, .bool false, .bool false, .bool false, .bool false, .bool false, .bool false, .bool false, .bool false, .bool false, .bool false, .bool false, .bool false, .bool false, .bool false, .bool false, .bool false, .bool false, .bool false, .bool false, .bool false, .bool false, .bool false, .bool false, .bool false, .bool false, .bool false, .bool false, .bool false, .bool false, .bool false, .bool false, .bool false, .bool false, .bool false, .bool false, .bool false, .bool false, .bool false, .bool false, .bool false, .bool false, .bool false, .bool false, .bool false, .bool false, .bool false, .bool false, .bool false, .bool false, .bool false, .bool false, .bool false, .bool false, .bool false, .bool false, .bool false, .bool false, .bool false, .bool false, .bool false, .bool false] 263) = W2 at *
    generalize hUe : subT t n' (szA t n') = U at *
    have HUe := Lib.hid hUe
    clear hUe
    obtain ⟨c, hc⟩ : ∃ c, c = szA t n' := ⟨_, rfl⟩
    rw [← hc] at HUl HKu ⊢
    have HC : Hid (c ≤ 64 ∧ n' + c ≤ t.length) := Lib.hid ⟨by have := HL.out; omega, by have := HL.out; omega⟩
    have HCp := Lib.hid (And.intro hc1 hc2)
    clear HL HKy hc hn
    go_loopw [25] (fun vi wx => ∃ i : Nat, i ≤ c ∧ vi = .int .i64 (i : Nat) ∧ AskS w1 w1.heap.size U i wx) (fun vi _ => c - (RowKit.intOf vi).toNat)
    case atStart => exact ⟨0, Nat.zero_le _, rfl, HA0.out⟩
    case round =>
      obtain ⟨i, hi, rfl, hA⟩ := hrel
      have HAr := Lib.hid hA
      have q64 : c ≤ 64 := HC.out.1
      clear HA0
      by_cases hlt : i < c
      · have p0 : (0 : Int) ≤ (i : Int) := by omega
        have p1 : (i : Int) < (c : Int) := by omega
        obtain ⟨k0, k1, k2, k3, k4⟩ := (HN.out.keep hA.bel) i (by rw [HUl.out]; exact hlt)
        have hop : (U.getD i default).op = opA U i := rfl
        have haa : (U.getD i default).a = aA U i := rfl
        rw [hop] at k0
        rw [haa] at k1
        have HLt := Lib.hid hlt
        have HAn := fun o => Lib.hid (HAr.out.keep (newF wr o))
        by_cases h2 : opA U i = 2
        · obtain ⟨a0, a1⟩ := HKu.out i hlt h2
          obtain ⟨k, hk⟩ : ∃ k : Nat, aA U i = (k : Int) := ⟨(aA U i).toNat, by omega⟩
          have HYs := Lib.hid (fun o => (HAn o).out.yes (k := k) HX.out h2 hk)
          rw [h2] at k0
          rw [hk] at k1
          have q0 : (0 : Int) ≤ (k : Int) := by omega
          have q1 : (k : Int) < 64 := by omega
          have x0 := fun o => (HAn o).out.cl k (by omega)
          have xf := fun o => (HAn o).out.fz k
          clear hA hlt hop haa h2 a0 a1 hk HAr HKu
          go_wp2_with fail
          go_roundw
          case rel => exact ⟨i + 1, HLt.out, by go_num, HYs.out _⟩
          case measure => have := HLt.out; simp [RowKit.intOf]; omega
        · have h2' : (opA U i == 2) = false := beq_false_of_ne h2
          have HNs := Lib.hid (fun o => (HAn o).out.no h2)
          clear hA hlt hop haa h2 HAr HKu
          generalize opA U i = op at *
          go_wp2_with fail
          go_roundw
          case rel => exact ⟨i + 1, HLt.out, by go_num, HNs.out _⟩
          case measure => have := HLt.out; simp [RowKit.intOf]; omega
      · have hic : i = c := by omega
        subst hic
        have p1 : ¬ (i : Int) < (i : Int) := by omega
        have HBr := Lib.hid (onF HB1.out hA.bel)
        have HCl := Lib.hid hA.cl
        clear hA hlt hi HAr HKu HN HX
        go_wp2_with (refine wpList_load64 rfl (.tmp 8) rfl w1.heap.size rfl (fun m => isN U (pT 2 2) m i) HCl.out ?_; intro A hA; have HAa := Lib.hid hA; clear hA)
        obtain ⟨i0, hi0, hz0, hz1, hz2⟩ := info_parts infoIT
        generalize wr = w3 at *
        go_loopw [37, 11] (fun vk vo wx => ∃ k : Nat, k ≤ 64 ∧ vk = .int .i64 (k : Nat) ∧ YtgeneoamngfomaaGreatDoor.Own wx w.heap.size vo (kyN U (pT 2 2) k) ∧ Below w.heap.size w wx) (fun vk _ _ => 64 - (RowKit.intOf vk).toNat)
        case atStart => exact ⟨0, Nat.zero_le _, rfl, YtgeneoamngfomaaGreatDoor.Own.nil _ _, HBr.out⟩
        case round =>
          obtain ⟨k, hk, rfl, hown, hb⟩ := hrel
          have HB := Lib.hid hb
          have HOw := Lib.hid hown
          obtain ⟨sa, sc, rfl⟩ := own_len hown
          by_cases hlt : k < 64
          · have y0 : (0 : Int) ≤ (k : Int) := by omega
            have y1 : (k : Int) < 64 := by omega
            have hll := kyN_len U (pT 2 2) k
            have HLs : Hid (kyN U (pT 2 2) (k + 1) = kyN U (pT 2 2) k ++ (if isN U (pT 2 2) k U.length = true then [(k : Int)] else [])) := Lib.hid rfl
            have hix := fun W => run_index64 W A k hlt _ (HAa.out k hlt)
            rw [HUl.out] at HLs
            have HLt := Lib.hid hlt
            clear hb hlt
            cases hs : isN U (pT 2 2) k i with
            | true =>
              rw [hs] at hix HLs
              rw [if_pos rfl] at HLs
              have hs1 := HB.out.size
              clear hs
              generalize kyN U (pT 2 2) k = l at *
              have h63 : l.length + 1 ≤ maxLen := by unfold maxLen; omega
              have hby : (l.length + 1) * 8 ≤ 140737488355328 := by omega
              go_wp2_with (at_builtin; refine wpList_append_own _ rfl _ _ 83 rfl w.heap.size 3 i0 (.int .i64 0) 1 8 Tryz.underlying83 hi0 hz0 hz1 hz2 rfl (by decide) _ _ _ rfl (hown.alloc _) ⟨wr.heap.size, 0, none⟩ 1 1 [.int .i64 (k : Int)] rfl rfl (one_cell wr _ _) (one_one _) h63 hby (by simp; omega) ?_; intro v' w5 hown' hgrow _)
              have HO2 := Lib.hid (own_snoc hown')
              have HB3 := Lib.hid (below_append HB.out hown (Nat.le_refl _) hs1 hgrow)
              clear hown hown' hgrow hs1
              go_wp2_with fail
              go_roundw
              case rel => exact ⟨k + 1, HLt.out, by go_num, by rw [HLs.out]; exact HO2.out, HB3.out⟩
              case measure => have := HLt.out; simp [RowKit.intOf]; omega
            | false =>
              rw [hs] at hix HLs
              rw [if_neg (by decide), List.append_nil] at HLs
              clear hs hown
              go_wp2_with fail
              go_roundw
              case rel => exact ⟨k + 1, HLt.out, by go_num, by rw [HLs.out]; exact HOw.out, HB.out⟩
              case measure => have := HLt.out; simp [RowKit.intOf]; omega
          · obtain rfl : k = 64 := by omega
            clear hb hown
            obtain ⟨l, hl'⟩ : ∃ l, l = kyN U (pT 2 2) 64 := ⟨_, rfl⟩
            rw [← hl'] at HOw ⊢
            have HLe := Lib.hid hl'
            clear hl'
            go_wp2_with fail
            go_ret2
            refine ⟨.inr ⟨HW0.out, .slice sa l.length sc, rfl, ?_⟩, HB.out⟩
            first | rw [HUe.out, ← HLe.out] | rw [← HLe.out]
            exact HOw.out
  · have h0' : (wrN t p != 0) = true := bne_iff_ne.2 h0
    clear hv C hbd
    generalize wrN t p = k at *
    go_enter Tryz.func163, Tryz.ntmps163
    go_wp2_with fail
    refine (HNm.out).mono ?_
    rintro e w1 ⟨⟨u, rfl, hu, _⟩, hb1⟩
    have hu' := hu h0
    subst hu'
    have HB1 := Lib.hid hb1
    clear hu hb1
    go_wp2_with fail
    go_ret2
    exact ⟨.inl ⟨h0, rfl⟩, HB1.out⟩

end Go.Proofs.YtgeneoamngfomaaGreatDoor
