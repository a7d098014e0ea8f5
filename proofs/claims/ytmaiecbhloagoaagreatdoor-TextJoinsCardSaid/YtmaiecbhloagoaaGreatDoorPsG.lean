/-
  Package text: partsBehind: what it answers.
-/
import Derived.Test.YtmaiecbhloagoaaGreatDoorPsE
import Derived.Test.YtmaiecbhloagoaaGreatDoorTrm
import Derived.OwnWalk
namespace Go.Proofs.YtmaiecbhloagoaaGreatDoor
open Go.RowKit Go.Lib
set_option linter.unusedVariables false
set_option linter.unusedSimpArgs false

/-- A slice that holds numbers, to be appended. -/
def SlN (w : World) (v : Value) (u : List Int) : Prop := (∃ ad c, v = .slice (some ad) u.length c ∧ ∀ j z, (u.map (Value.int .i64))[j]? = some z → w.cell? (ad.add j) = some z) ∨ (u = [] ∧ ∃ c, v = .slice none 0 c)
theorem ints_one {u : List Int} : ∀ z ∈ u.map (Value.int .i64), z.oneCell' = true := by
  intro z hz
  obtain ⟨x, _, rfl⟩ := List.mem_map.1 hz
  rfl
/-- Numbers appended to numbers of the call's own. -/
theorem wpList_append_ints {w : World} {ops : Array Oper} {rest : List Oper} {o : Oper} {a : Act} {Q : Exit → Act → World → Prop} (hgd : o.guard = none) (s x : Operand)
    (ho : o.op = .call { callee := .builtin .append, args := #[s, x], argTypes := #[36, 36] })
    (base : Nat) (v : Value) (t : List Int) (hs : a.eval s = v) (hown : YtmaiecbhloagoaaGreatDoor.Own w base v t) (xv : Value) (u : List Int) (hx : a.eval x = xv) (hsl : SlN w xv u)
    (hlen : t.length + u.length ≤ 100000) (hbase : base ≤ w.heap.size)
    (h : ∀ v' w', YtmaiecbhloagoaaGreatDoor.Own w' base v' (t ++ u) → w.grownBy w' v.ownBlock → (v'.ownBlock = v.ownBlock ∨ v'.ownBlock = some w.heap.size) → wpList Tryz.prog ops Q rest (a.put o.dst v') w') : wpList Tryz.prog ops Q (o :: rest) a w := by
  obtain ⟨i0, hi0, hz0, hz1, hz2⟩ := info_parts infoIT
  rcases hsl with ⟨ad, c, hv, hc⟩ | ⟨rfl, c, hv⟩
  · refine wpList_append_own_at _ hgd s x 36 ho base 3 i0 _ 1 8 Tryz.underlying36 hi0 hz0 hz1 hz2 rfl (by decide) v t.length (t.map (Value.int .i64)) hs hown ad u.length c (u.map (Value.int .i64)) (hx.trans hv) (by simp) hc ints_one (by unfold maxLen; omega) (by omega) hbase ?_
    intro v' w' h1 h2 _ h3
    refine h v' w' ?_ h2 h3
    unfold YtmaiecbhloagoaaGreatDoor.Own
    rw [List.length_append, List.map_append]; exact h1
  · subst hv
    refine wpList_plain hgd fun K hK => ?_
    have hrun := run_append_no (P := Tryz.prog) (w := w) base 36 o.type 3 i0 1 Tryz.underlying36 hi0 v _ _ hown c
    unfold Oper.wp
    simp only [execOp, ho, resolve, invoke, builtin, Sem.run_bind, Sem.run_pure, Result.andThen_ok, List.map_toArray, List.map_cons, List.map_nil, hs, hx, hrun]
    exact hK _ _ (h v w (by rw [List.append_nil]; exact hown) ⟨rfl, rfl, rfl, Nat.le_refl _, fun _ _ _ => rfl⟩ (.inl rfl))
theorem slN_one (w : World) (x : Int) (e : TypeId) : SlN (w.alloc (.cells #[.int .i64 x] e)) (.slice (some ⟨w.heap.size, 0, none⟩) 1 1) [x] := .inl ⟨_, 1, rfl, one_cell w x e⟩
theorem slN_two (w : World) (x y : Int) (e : TypeId) : SlN (w.alloc (.cells #[.int .i64 x, .int .i64 y] e)) (.slice (some ⟨w.heap.size, 0, none⟩) 2 2) [x, y] := by
  refine .inl ⟨_, 2, rfl, fun j z hz => ?_⟩
  match j, hz with
  | 0, hz =>
    rw [Go.WideShapes.add_plain, World.cell?_alloc_at _ _ _ _ rfl]; exact hz
  | 1, hz =>
    rw [Go.WideShapes.add_plain, World.cell?_alloc_at _ _ _ _ rfl]; exact hz
theorem below_ints {B base : Nat} {w0 w w' : World} {v : Value} {t : List Int} (hb : Below B w0 w) (ho : YtmaiecbhloagoaaGreatDoor.Own w base v t) (hB : B ≤ base) (hw : B ≤ w.heap.size) (hg : w.grownBy w' v.ownBlock) : Below B w0 w' := by
  refine hb.grown hg (by omega) (fun k hk => ?_)
  have := World.ownsRow.lt ho k hk
  omega
theorem Own.sliceI {w : World} {base : Nat} {v : Value} {l : List Int} (h : YtmaiecbhloagoaaGreatDoor.Own w base v l) : ∃ a cap, v = .slice a l.length cap := by
  rcases h.reads with ⟨rfl, rfl⟩ | ⟨g, cap, rfl, _⟩
  · exact ⟨_, _, rfl⟩
  · exact ⟨_, _, rfl⟩

theorem cell_kept_ne {w w' : World} {row : Option Nat} {b i : Nat} {v : Value} (hg : w.grownBy w' row) (h : w.cell? ⟨b, i, none⟩ = some v) (hne : row ≠ some b) : w'.cell? ⟨b, i, none⟩ = some v :=
  (World.cell?_of_block (a := ⟨b, i, none⟩) (hg.block b (ltT h) (fun e => hne e.symm))).trans h
/-- The table of heads: a word and two fields for each op. -/
def fdC (k j : Nat) : Nat := (fdN k).getD j 0
structure HdW (w : World) : Prop where
  c0 : ∀ k, k < 18 → w.cell? ⟨0, k * 3, none⟩ = some (.string ⟨(wdN k).toArray⟩)
  c1 : ∀ k, k < 18 → w.cell? ⟨0, k * 3 + 1, none⟩ = some (.int .i64 (fdC k 0))
  c2 : ∀ k, k < 18 → w.cell? ⟨0, k * 3 + 2, none⟩ = some (.int .i64 (fdC k 1))
theorem HdW.keep {w w' : World} (h : HdW w) (hb : Below w.heap.size w w') : HdW w' :=
  ⟨fun k hk => keepT hb (h.c0 k hk), fun k hk => keepT hb (h.c1 k hk), fun k hk => keepT hb (h.c2 k hk)⟩
/-- The fields, as far as they have come. -/
def fdP (f0 f1 j : Nat) : List Int := (if 0 < j ∧ f0 ≠ 0 then [(f0 : Int)] else []) ++ (if 1 < j ∧ f1 ≠ 0 then [(f1 : Int)] else [])
/-- What stands behind the fields, as far as it has come. -/
def kdP (g : Nat → Nat) : Nat → List Int
  | 0 => []
  | i + 1 => kdP g i ++ [if i = 0 then 3 else 4, (g i : Int)]
theorem kdP_len (g : Nat → Nat) : ∀ i, (kdP g i).length = 2 * i
  | 0 => rfl
  | i + 1 => by rw [kdP, List.length_append, kdP_len g i]; simp; omega
theorem fdP_len (f0 f1 j : Nat) : (fdP f0 f1 j).length ≤ 2 := by unfold fdP; split <;> split <;> simp
theorem bh_all : ∀ k : Fin 18, (bhN k.val).map (fun (p : Nat) => (p : Int)) = fdP (fdC k.val 0) (fdC k.val 1) 2 ++ kdP (fun j => kdC k.val j) (kdT.getD k.val []).length ++ (if (kdT.getD k.val []).length = 0 then [] else [5]) := by decide
theorem bh_eq {k : Nat} (hk : k < 18) : (bhN k).map (fun (p : Nat) => (p : Int)) = fdP (fdC k 0) (fdC k 1) 2 ++ kdP (fun j => kdC k j) (kdT.getD k []).length ++ (if (kdT.getD k []).length = 0 then [] else [5]) := bh_all ⟨k, hk⟩
theorem fdP_step (f0 f1 : Nat) : fdP f0 f1 1 = fdP f0 f1 0 ++ (if f0 ≠ 0 then [(f0 : Int)] else []) ∧ fdP f0 f1 2 = fdP f0 f1 1 ++ (if f1 ≠ 0 then [(f1 : Int)] else []) := by
  unfold fdP
  by_cases h : f0 = 0 <;> by_cases h' : f1 = 0 <;> simp [h, h']

set_option maxHeartbeats 4000000 in
set_option maxRecDepth 100000 in
theorem behind_any (k : Nat) (hk : k < 18) (w : World) (H : HdW w) (C : KndW w) : Calls Tryz.prog 118 #[.int .i64 k] w fun e w' => ∃ v, e = .returned v ∧ YtmaiecbhloagoaaGreatDoor.Own w' w.heap.size v ((bhN k).map fun (p : Nat) => (p : Int)) ∧ Below w.heap.size w w' := by
  rw [bh_eq hk]
  have i0 : (0 : Int) ≤ (k : Int) := by omega
  have i1 : (k : Int) < 18 := by omega
  have h1 := H.c1 k hk
  have h2 := H.c2 k hk
  have HK := Lib.hid (fun (w' : World) (hb : Below w.heap.size w w') => kids_any (k : Int) w' (C.keep hb))
  have hix : ixO (k : Int) = k := by unfold ixO; rw [if_pos ⟨i0, i1⟩]; rfl
  have hcn : cnO (k : Int) = (kdT.getD k []).length := by unfold cnO kdO; rw [hix]
  have hc4 := cn_all k hk
  rw [hix, hcn] at HK
  generalize hg : (fun j => kdC k j) = g
  have hg' : ∀ j, kdC k j = g j := fun j => by rw [← hg]
  simp only [hg'] at HK
  generalize (kdT.getD k []).length = c at *
  generalize fdC k 0 = f0 at *
  generalize fdC k 1 = f1 at *
  clear H C hk hix hcn hg hg'
  have HF := Lib.hid (fdP_step f0 f1)
  have ki0 : ∀ W, (Instr.index 98 (.agg #[.int .i64 f0, .int .i64 f1]) (.int .i64 0)).run Tryz.prog W = .ok (.int .i64 f0) W := fun W => by kernel_rfl
  have ki1 : ∀ W, (Instr.index 98 (.agg #[.int .i64 f0, .int .i64 f1]) (.int .i64 1)).run Tryz.prog W = .ok (.int .i64 f1) W := fun W => by kernel_rfl
  go_enter Tryz.func118, Tryz.ntmps118
  go_wp2_with fail
  go_loopw [3, 13] (fun va vj wx => ∃ j : Nat, j ≤ 2 ∧ vj = .int .i64 j ∧ YtmaiecbhloagoaaGreatDoor.Own wx w.heap.size va (fdP f0 f1 j) ∧ Below w.heap.size w wx) (fun _ vj _ => 2 - (RowKit.intOf vj).toNat)
  case atStart => exact ⟨0, by omega, rfl, by simpa [fdP] using YtmaiecbhloagoaaGreatDoor.Own.nil _ _, Below.refl _ _⟩
  case round =>
    obtain ⟨j, hj, rfl, hown, hb⟩ := hrel
    have HB := Lib.hid hb
    have HO := Lib.hid hown
    have hlen := fdP_len f0 f1 j
    obtain ⟨va, ca, rfl⟩ := Own.sliceI hown
    match j, hj with
    | 0, _ =>
      by_cases hz : f0 = 0
      · have hz' : ((f0 : Int) == 0) = true := by simp [hz]
        have HZ := Lib.hid hz
        clear hown hb hz
        go_wp2_with fail
        go_roundw
        case rel => exact ⟨1, by omega, by go_num, by rw [HF.out.1, if_neg (by simp [HZ.out]), List.append_nil]; exact HO.out, HB.out⟩
        case measure => simp [RowKit.intOf]
      · have hz' : ((f0 : Int) == 0) = false := by simp; omega
        have HZ := Lib.hid hz
        clear hz
        have hsz := HB.out.size
        clear hown hb
        go_wp2_with (at_builtin; refine wpList_append_ints rfl _ _ rfl w.heap.size _ (fdP f0 f1 0) rfl (HO.out.grown (newB _ _)) _ [(f0 : Int)] rfl (slN_one _ _ _) (by simp; omega) (by simp; omega) ?_; intro v' w1 ho hgr hat; have HO1 := Lib.hid ho; have HB1 := Lib.hid (below_ints (onB HB.out (newB _ _)) (HO.out.grown (newB _ _)) (Nat.le_refl _) (by simp; omega) hgr); clear ho hgr hat)
        go_roundw
        case rel => exact ⟨1, by omega, by go_num, by rw [HF.out.1, if_pos HZ.out]; exact HO1.out, HB1.out⟩
        case measure => simp [RowKit.intOf]
    | 1, _ =>
      by_cases hz : f1 = 0
      · have hz' : ((f1 : Int) == 0) = true := by simp [hz]
        have HZ := Lib.hid hz
        clear hown hb hz
        go_wp2_with fail
        go_roundw
        case rel => exact ⟨2, by omega, by go_num, by rw [HF.out.2, if_neg (by simp [HZ.out]), List.append_nil]; exact HO.out, HB.out⟩
        case measure => simp [RowKit.intOf]
      · have hz' : ((f1 : Int) == 0) = false := by simp; omega
        have HZ := Lib.hid hz
        clear hz
        have hsz := HB.out.size
        clear hown hb
        go_wp2_with (at_builtin; refine wpList_append_ints rfl _ _ rfl w.heap.size _ (fdP f0 f1 1) rfl (HO.out.grown (newB _ _)) _ [(f1 : Int)] rfl (slN_one _ _ _) (by simp; omega) (by simp; omega) ?_; intro v' w1 ho hgr hat; have HO1 := Lib.hid ho; have HB1 := Lib.hid (below_ints (onB HB.out (newB _ _)) (HO.out.grown (newB _ _)) (Nat.le_refl _) (by simp; omega) hgr); clear ho hgr hat)
        go_roundw
        case rel => exact ⟨2, by omega, by go_num, by rw [HF.out.2, if_pos HZ.out]; exact HO1.out, HB1.out⟩
        case measure => simp [RowKit.intOf]
    | 2, _ =>
      clear hown hb
      have HKr := Lib.hid (HK.out _ HB.out)
      go_wp2_with fail
      refine HKr.out.mono ?_
      rintro e w1 ⟨kb, kc, rfl, hk1, hk2, hk3, hbk⟩
      have HB1 := Lib.hid (onB HB.out hbk)
      have HO1 := Lib.hid (HO.out.grown hbk)
      have HC1 := Lib.hid hk3
      have hkb : kb < w1.heap.size := hk2
      have HNe : Hid (∀ k', (Value.slice va (fdP f0 f1 2).length ca).ownBlock = some k' → k' ≠ kb) := Lib.hid (fun k' hk' => by
        have := (World.ownsRow.lt HO.out k' hk').2
        omega)
      clear hk1 hk2 hk3 hbk
      have c0 : (0 : Int) ≤ (c : Int) := by omega
      have c1 : (c : Int) ≤ 4 := by omega
      go_wp2_with fail
      go_loopw [3, 6, 26] (fun va vm vi wx => ∃ i : Nat, i ≤ c ∧ vi = .int .i64 i ∧ vm = .int .i64 (if i = 0 then 3 else 4) ∧ YtmaiecbhloagoaaGreatDoor.Own wx w.heap.size va (fdP f0 f1 2 ++ kdP g i) ∧ Below w.heap.size w wx ∧ (∀ j, j < c → wx.cell? ⟨kb, 1 + j, none⟩ = some (.int .i64 (g j))) ∧ (∀ k', va.ownBlock = some k' → k' ≠ kb)) (fun _ _ vi _ => c - (RowKit.intOf vi).toNat)
      case atStart => exact ⟨0, by omega, rfl, rfl, by simpa [kdP] using HO1.out, HB1.out, HC1.out, HNe.out⟩
      case round =>
        obtain ⟨i, hi, rfl, rfl, hown2, hb2, hcs, hne⟩ := hrel
        have HB2 := Lib.hid hb2
        have HO2 := Lib.hid hown2
        have HC2 := Lib.hid hcs
        have HN2 := Lib.hid hne
        have hlen2 := kdP_len g i
        obtain ⟨F, hF⟩ : ∃ F, F = fdP f0 f1 2 := ⟨_, rfl⟩
        have hFl : F.length ≤ 2 := by rw [hF]; exact fdP_len _ _ _
        obtain ⟨va2, ca2, rfl⟩ := Own.sliceI hown2
        rw [← hF] at HO2 HN2 ⊢
        have HF2 := Lib.hid hF
        have hbase := HB2.out.size
        by_cases hlt : i < c
        · have hcl := hcs i hlt
          have HE : Hid (kdP g (i + 1) = kdP g i ++ [if i = 0 then 3 else 4, (g i : Int)]) := Lib.hid rfl
          have HM : Hid ((4 : Int) = (if i + 1 = 0 then (3 : Int) else 4)) := Lib.hid (by rw [if_neg (by omega)])
          generalize (if i = 0 then (3 : Int) else 4) = mk at *
          have i2 : (0 : Int) ≤ (i : Int) := by omega
          have i3 : (i : Int) < (c : Int) := by omega
          have i4 : i < c := hlt
          clear hown2 hb2 hlt hcs hne hF
          generalize hL : kdP g i = L at *
          have HL := Lib.hid hL
          clear hL
          have HKl : Hid (∀ j, j < c → kb < wr.heap.size) := Lib.hid (fun j hj => ltT (HC2.out j hj))
          go_wp2_with (at_builtin; refine wpList_append_ints rfl _ _ rfl w.heap.size _ (F ++ L) rfl (HO2.out.grown (newB _ _)) _ [mk, (g i : Int)] rfl (slN_two _ _ _ _) (by simp; omega) (by simp; omega) ?_; intro v' w3 ho hgr hat; have HO3 := Lib.hid ho; have HB3 := Lib.hid (below_ints (onB HB2.out (newB _ _)) (HO2.out.grown (newB _ _)) (Nat.le_refl _) (by simp; omega) hgr); have HG3 := Lib.hid hgr; have HA3 := Lib.hid hat; clear ho hgr hat)
          go_roundw
          case rel =>
            refine ⟨i + 1, by omega, by go_num, by rw [← HM.out], by rw [HE.out]; first | exact HO3.out | (rw [← List.append_assoc]; exact HO3.out), HB3.out, fun j hj => ?_, fun k' hk' => ?_⟩
            · exact cell_kept_ne HG3.out (newT (HC2.out j hj) _) (fun e => HN2.out _ e rfl)
            · rcases HA3.out with e | e
              · exact HN2.out k' (e.symm.trans hk')
              · have := HKl.out i i4
                rw [e] at hk'
                injection hk' with hk'
                rw [World.size_alloc] at hk'
                omega
          case measure => simp [RowKit.intOf]; omega
        · have hic : i = c := by omega
          clear hcs hne hlt hb2
          subst hic
          have HO2' := HO2.out
          rw [HF2.out] at HO2'
          have HO4 := Lib.hid HO2'
          clear HO2' hown2
          by_cases hz : i = 0
          · subst hz
            have HZ : Hid (kdP g 0 = []) := Lib.hid rfl
            clear hF
            go_wp2_with fail
            go_ret
            refine ⟨_, rfl, ?_, HB2.out⟩
            have := HO4.out
            simpa [kdP, HF2.out] using this
          · have hm : (if i = 0 then (3 : Int) else 4) = 4 := if_neg hz
            rw [hm]
            have HZ : Hid (¬ i = 0) := Lib.hid hz
            clear hz hm hF
            go_wp2_with (at_builtin; refine wpList_append_ints rfl _ _ rfl w.heap.size _ (F ++ kdP g i) rfl (HO2.out.grown (newB _ _)) _ [(5 : Int)] rfl (slN_one _ _ _) (by simp; omega) (by simp; omega) ?_; intro v' w3 ho hgr hat; have HO3 := Lib.hid ho; have HB3 := Lib.hid (below_ints (onB HB2.out (newB _ _)) (HO2.out.grown (newB _ _)) (Nat.le_refl _) (by simp; omega) hgr); clear ho hgr hat)
            go_ret
            refine ⟨_, rfl, ?_, HB3.out⟩
            have := HO3.out
            rw [HF2.out, List.append_assoc] at this
            first
              | exact this
              | (rw [if_neg HZ.out, List.append_assoc]; exact this)

end Go.Proofs.YtmaiecbhloagoaaGreatDoor
