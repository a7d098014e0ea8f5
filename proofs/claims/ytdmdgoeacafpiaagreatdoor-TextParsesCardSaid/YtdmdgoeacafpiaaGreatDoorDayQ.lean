/-
  chattelref04: Read: what it answers.
-/
import Derived.Test.YtdmdgoeacafpiaaGreatDoorDayP
import Derived.Deep.RegionWith
import Derived.Deep.DeepCutAuto
namespace Go.Proofs.YtdmdgoeacafpiaaGreatDoor
open Go.RowKit Go.Lib
set_option linter.unusedVariables false

theorem val_4 (B : Nat → Nat) : valB (fun k => B (0 + k)) 4 = numP B 0 10 := by rw [numP_0]; simp [valB]
theorem val_2 (B : Nat → Nat) : valB (fun k => B (5 + k)) 2 = numP B 1 10 := by rw [numP_1]; simp [valB]
theorem val_3 (B : Nat → Nat) : valB (fun k => B (8 + k)) 2 = numP B 2 10 := by rw [numP_2]; simp [valB]
theorem form_parts {l : List UInt8} (h : l.length = 10) (h4 : bytN l 4 = 45) (h7 : bytN l 7 = 45) : formB l = true ↔ ((∀ i, i < 4 → DgB (fun k => bytN l (0 + k)) i) ∧ (∀ i, i < 2 → DgB (fun k => bytN l (5 + k)) i) ∧ (∀ i, i < 2 → DgB (fun k => bytN l (8 + k)) i)) := by
  rw [formB_iff]
  constructor
  · rintro ⟨_, g⟩
    have g' : ∀ i, i < 10 → ¬ (i = 4 ∨ i = 7) → 48 ≤ bytN l i ∧ bytN l i ≤ 57 := fun i hi hn => by have := g i hi; unfold OkB at this; rw [if_neg hn] at this; exact this
    exact ⟨fun i hi => g' (0 + i) (by omega) (by omega), fun i hi => g' (5 + i) (by omega) (by omega), fun i hi => g' (8 + i) (by omega) (by omega)⟩
  · rintro ⟨g1, g2, g3⟩
    refine ⟨h, fun i hi => ?_⟩
    unfold OkB
    by_cases c : i = 4 ∨ i = 7
    · rw [if_pos c]
      rcases c with c | c <;> subst c <;> assumption
    · rw [if_neg c]
      by_cases c1 : i < 4
      · have := g1 i c1; unfold DgB at this; simpa using this
      · by_cases c2 : i < 7
        · have := g2 (i - 5) (by omega); unfold DgB at this; dsimp only at this; rw [show 5 + (i - 5) = i by omega] at this; exact this
        · have := g3 (i - 8) (by omega); unfold DgB at this; dsimp only at this; rw [show 8 + (i - 8) = i by omega] at this; exact this
theorem ext_at (s : ByteArray) (a b : Nat) (hb : b ≤ s.size) (k : Nat) (h : k < (s.extract a b).size) : (s.extract a b)[k].toNat = bytN s.data.toList (a + k) := by
  rw [byt_at]
  have hk : k < b - a := by rw [ByteArray.size_extract] at h; omega
  unfold bytN
  rw [Lib.extract_data, List.getD_eq_getElem?_getD, List.getD_eq_getElem?_getD, List.getElem?_take, if_pos hk, List.getElem?_drop]
/-- What Read's two blocks hold. -/
structure RdR (w W : World) (x y z : Int) : Prop where
  bel : Below w.heap.size w W
  d0 : W.cell? ⟨w.heap.size + 1, 0, none⟩ = some (.int .i64 x)
  d1 : W.cell? ⟨w.heap.size + 1, 1, none⟩ = some (.int .i64 y)
  d2 : W.cell? ⟨w.heap.size + 1, 2, none⟩ = some (.int .i64 z)
  rs : ∀ i, i < 3 → W.cell? ⟨w.heap.size, i, none⟩ = some (.int .i64 0)
  rf : ∀ i, i < 3 → W.frozen? ⟨w.heap.size, i, none⟩ = false
theorem RdR.new (w : World) (x y z : Int) (t t' : TypeId) : RdR w (((w.alloc (.cells #[.int .i64 0, .int .i64 0, .int .i64 0] t)).alloc (.cells #[.int .i64 x, .int .i64 y, .int .i64 z] t')).drew) x y z := by
  have e : (w.alloc (.cells #[.int .i64 0, .int .i64 0, .int .i64 0] t)).heap.size = w.heap.size + 1 := by simp
  refine ⟨Below.drew (bel_on (below_new w _) (below_new _ _)), ?_, ?_, ?_, fun i hi => ?_, fun i hi => ?_⟩
  · show ((w.alloc (.cells #[.int .i64 0, .int .i64 0, .int .i64 0] t)).alloc (.cells #[.int .i64 x, .int .i64 y, .int .i64 z] t')).cell? _ = _
    rw [← e, World.cell?_alloc_at _ _ _ _ rfl]; rfl
  · show ((w.alloc (.cells #[.int .i64 0, .int .i64 0, .int .i64 0] t)).alloc (.cells #[.int .i64 x, .int .i64 y, .int .i64 z] t')).cell? _ = _
    rw [← e, World.cell?_alloc_at _ _ _ _ rfl]; rfl
  · show ((w.alloc (.cells #[.int .i64 0, .int .i64 0, .int .i64 0] t)).alloc (.cells #[.int .i64 x, .int .i64 y, .int .i64 z] t')).cell? _ = _
    rw [← e, World.cell?_alloc_at _ _ _ _ rfl]; rfl
  · show ((w.alloc (.cells #[.int .i64 0, .int .i64 0, .int .i64 0] t)).alloc (.cells #[.int .i64 x, .int .i64 y, .int .i64 z] t')).cell? _ = _
    rw [World.cell?_alloc_past _ _ _ (by rw [e]; exact Nat.lt_succ_self _), World.cell?_alloc_at _ _ _ _ rfl]
    match i, hi with
    | 0, _ => rfl
    | 1, _ => rfl
    | 2, _ => rfl
  · show ((w.alloc (.cells #[.int .i64 0, .int .i64 0, .int .i64 0] t)).alloc (.cells #[.int .i64 x, .int .i64 y, .int .i64 z] t')).frozen? _ = _
    rw [World.frozen?_alloc_past _ _ _ (by rw [e]; exact Nat.lt_succ_self _)]
    exact World.frozen?_alloc_at _ _ _ _ rfl
theorem bel_3 {w W : World} (h : Below w.heap.size w W) (x y z : Value) : Below w.heap.size w ((((W.setCell ⟨w.heap.size, 0, none⟩ x).setCell ⟨w.heap.size, 1, none⟩ y).setCell ⟨w.heap.size, 2, none⟩ z).drew) :=
  Below.drew (Below.setCell (Below.setCell (Below.setCell h (Nat.le_refl _) _) (Nat.le_refl _) _) (Nat.le_refl _) _)
/-- What Read answers. -/
def ReadRAns (l : List UInt8) (w : World) (e : Ending) (w' : World) : Prop :=
  (∃ (x y z : Int) (b : Bool), e = .returned (.tuple #[.agg #[.int .i64 x, .int .i64 y, .int .i64 z], .bool b]) ∧ b = formB l ∧ (b = true → x = yOf l ∧ y = mOf l ∧ z = dOf l)) ∧ Below w.heap.size w w'

set_option maxHeartbeats 2000000 in
set_option maxRecDepth 100000 in
theorem readr_any (s : ByteArray) (hm : s.size ≤ 9223372036854775807) (w : World) : Calls Tryz.prog 49 #[.string s] w (ReadRAns s.data.toList w) := by
  by_cases h10 : s.size = 10
  · have b4 := byt_at s 4 (by omega)
    have b7 := byt_at s 7 (by omega)
    obtain ⟨l, hl⟩ : ∃ l, l = s.data.toList := ⟨_, rfl⟩
    rw [← hl] at b4 b7
    have n1 := Lib.hid (fun w => numberD_any (s.extract 0 4) (by rw [ByteArray.size_extract]; omega) (fun k => bytN l (0 + k)) (fun k h => by rw [hl]; exact ext_at s 0 4 (by omega) k h) w)
    have n2 := Lib.hid (fun w => numberD_any (s.extract 5 7) (by rw [ByteArray.size_extract]; omega) (fun k => bytN l (5 + k)) (fun k h => by rw [hl]; exact ext_at s 5 7 (by omega) k h) w)
    have n3 := Lib.hid (fun w => numberD_any (s.extract 8 10) (by rw [ByteArray.size_extract]; omega) (fun k => bytN l (8 + k)) (fun k h => by rw [hl]; exact ext_at s 8 10 (by omega) k h) w)
    have z1 : (s.extract 0 4).size = 4 := by rw [ByteArray.size_extract]; omega
    have z2 : (s.extract 5 7).size = 2 := by rw [ByteArray.size_extract]; omega
    have z3 : (s.extract 8 10).size = 2 := by rw [ByteArray.size_extract]; omega
    rw [z1] at n1
    rw [z2] at n2
    rw [z3] at n3
    have hlen : l.length = 10 := by rw [hl, ← size_len]; exact h10
    have HLen := Lib.hid hlen
    rw [← hl]
    obtain ⟨c4, hc4⟩ : ∃ c, c = bytN l 4 := ⟨_, rfl⟩
    obtain ⟨c7, hc7⟩ : ∃ c, c = bytN l 7 := ⟨_, rfl⟩
    rw [← hc4] at b4
    rw [← hc7] at b7
    have HC4 := Lib.hid hc4
    have HC7 := Lib.hid hc7
    have i4 : (4 : Int) < (s.size : Int) := by omega
    have i7 : (7 : Int) < (s.size : Int) := by omega
    have hle : (8 : Int) ≤ (s.size : Int) := by omega
    clear hl hlen hc4 hc7 z1 z2 z3
    by_cases h4 : c4 = 45
    · by_cases h7 : c7 = 45
      · have HF := Lib.hid (form_parts HLen.out (HC4.out.symm.trans h4) (HC7.out.symm.trans h7))
        subst h4 h7
        go_enter Tryz.func49, Tryz.ntmps49
        go_wp2_with fail
        go_cut [4] (fun t wx => t = .pointer (some ⟨w.heap.size + 1, 0, none⟩) ∧ ∃ v1 v2 v3 : Int, RdR w wx v1 v2 v3 ∧ numV (fun k => bytN l (0 + k)) 4 v1 ∧ numV (fun k => bytN l (5 + k)) 2 v2 ∧ numV (fun k => bytN l (8 + k)) 2 v3)
        case first =>
          go_region_with (first | (go_at_call 75; (with_reducible refine (n1.out _).mono ?_); rintro e w1 ⟨⟨v1, rfl, hv1⟩, rfl⟩; have V1 := Lib.hid hv1; clear hv1) | (go_at_call 75; (with_reducible refine (n2.out _).mono ?_); rintro e w1 ⟨⟨v2, rfl, hv2⟩, rfl⟩; have V2 := Lib.hid hv2; clear hv2) | (go_at_call 75; (with_reducible refine (n3.out _).mono ?_); rintro e w1 ⟨⟨v3, rfl, hv3⟩, rfl⟩; have V3 := Lib.hid hv3; clear hv3))
          all_goals go_wp2_with fail
          all_goals go_meet
          all_goals exact ⟨rfl, v1, v2, v3, RdR.new w v1 v2 v3 _ _, V1.out, V2.out, V3.out⟩
        case rest =>
          obtain ⟨rfl, v1, v2, v3, hR, V1, V2, V3⟩ := hcut
          obtain ⟨hbel, d0, d1, d2, hr, hf⟩ := hR
          have HB := Lib.hid hbel
          have r0 := hr 0 (by omega)
          have r1 := hr 1 (by omega)
          have r2 := hr 2 (by omega)
          have f0 := hf 0 (by omega)
          have f1 := hf 1 (by omega)
          have f2 := hf 2 (by omega)
          clear n1 n2 n3 hbel hr hf
          rcases V1 with ⟨g1, rfl⟩ | ⟨g1, rfl⟩
          · have p1 : (0 : Int) ≤ (valB (fun k => bytN l (0 + k)) 4 : Int) := by omega
            rcases V2 with ⟨g2, rfl⟩ | ⟨g2, rfl⟩
            · have p2 : (0 : Int) ≤ (valB (fun k => bytN l (5 + k)) 2 : Int) := by omega
              rcases V3 with ⟨g3, rfl⟩ | ⟨g3, rfl⟩
              · have p3 : (0 : Int) ≤ (valB (fun k => bytN l (8 + k)) 2 : Int) := by omega
                have HY : Hid (formB l = true ∧ valB (fun k => bytN l (0 + k)) 4 = yOf l ∧ valB (fun k => bytN l (5 + k)) 2 = mOf l ∧ valB (fun k => bytN l (8 + k)) 2 = dOf l) := Lib.hid ⟨HF.out.2 ⟨g1, g2, g3⟩, val_4 _, val_2 _, val_3 _⟩
                clear g1 g2 g3
                generalize valB (fun k => bytN l (0 + k)) 4 = x1 at *
                generalize valB (fun k => bytN l (5 + k)) 2 = x2 at *
                generalize valB (fun k => bytN l (8 + k)) 2 = x3 at *
                go_upto_region 4 with (fail)
                go_region
                all_goals go_wp2_with fail
                all_goals exact bodyPost_ret (v := .tuple #[.agg #[.int .i64 x1, .int .i64 x2, .int .i64 x3], .bool true]) (by simp [results, Tryz.results49, go_sem, r0, r1, r2]) rfl ⟨⟨_, _, _, true, rfl, HY.out.1.symm, fun _ => ⟨by rw [HY.out.2.1], by rw [HY.out.2.2.1], by rw [HY.out.2.2.2]⟩⟩, bel_3 HB.out _ _ _⟩
              · have HN : Hid (false = formB l) := Lib.hid (by cases e : formB l with | false => rfl | true => exact absurd (HF.out.1 e).2.2 g3)
                clear g1 g2 g3
                generalize valB (fun k => bytN l (0 + k)) 4 = x1 at *
                generalize valB (fun k => bytN l (5 + k)) 2 = x2 at *
                go_upto_region 4 with (fail)
                go_region
                all_goals go_wp2_with fail
                all_goals exact bodyPost_ret (v := .tuple #[.agg #[.int .i64 x1, .int .i64 x2, .int .i64 (-1)], .bool false]) (by simp [results, Tryz.results49, go_sem, r0, r1, r2]) rfl ⟨⟨_, _, _, false, rfl, HN.out, fun h => by cases h⟩, bel_3 HB.out _ _ _⟩
            · have HN : Hid (false = formB l) := Lib.hid (by cases e : formB l with | false => rfl | true => exact absurd (HF.out.1 e).2.1 g2)
              clear g1 g2 V3
              generalize valB (fun k => bytN l (0 + k)) 4 = x1 at *
              go_upto_region 4 with (fail)
              go_region
              all_goals go_wp2_with fail
              all_goals exact bodyPost_ret (v := .tuple #[.agg #[.int .i64 x1, .int .i64 (-1), .int .i64 v3], .bool false]) (by simp [results, Tryz.results49, go_sem, r0, r1, r2]) rfl ⟨⟨_, _, _, false, rfl, HN.out, fun h => by cases h⟩, bel_3 HB.out _ _ _⟩
          · have HN : Hid (false = formB l) := Lib.hid (by cases e : formB l with | false => rfl | true => exact absurd (HF.out.1 e).1 g1)
            clear g1 V2 V3
            go_upto_region 4 with (fail)
            go_region
            all_goals go_wp2_with fail
            all_goals exact bodyPost_ret (v := .tuple #[.agg #[.int .i64 (-1), .int .i64 v2, .int .i64 v3], .bool false]) (by simp [results, Tryz.results49, go_sem, r0, r1, r2]) rfl ⟨⟨_, _, _, false, rfl, HN.out, fun h => by cases h⟩, bel_3 HB.out _ _ _⟩
      · have hb : ((c7 : Int) == 45) = false := by simp; omega
        have HNo : Hid (formB l = false) := Lib.hid (by
          cases e : formB l with
          | false => rfl
          | true =>
            have := (formB_iff.1 e).2 7 (by omega)
            unfold OkB at this
            rw [if_pos (by omega), ← HC7.out] at this
            exact absurd this h7)
        subst h4
        clear h7
        go_enter Tryz.func49, Tryz.ntmps49
        go_wp2_with fail
        exact bodyPost_ret (v := .tuple #[.agg #[.int .i64 0, .int .i64 0, .int .i64 0], .bool false]) (by simp [results, Tryz.results49, go_sem]) rfl ⟨⟨0, 0, 0, false, rfl, HNo.out.symm, fun h => by cases h⟩, below_new w _⟩
    · have hb : ((c4 : Int) == 45) = false := by simp; omega
      have HNo : Hid (formB l = false) := Lib.hid (by
        cases e : formB l with
        | false => rfl
        | true =>
          have := (formB_iff.1 e).2 4 (by omega)
          unfold OkB at this
          rw [if_pos (by omega), ← HC4.out] at this
          exact absurd this h4)
      clear h4
      go_enter Tryz.func49, Tryz.ntmps49
      go_wp2_with fail
      exact bodyPost_ret (v := .tuple #[.agg #[.int .i64 0, .int .i64 0, .int .i64 0], .bool false]) (by simp [results, Tryz.results49, go_sem]) rfl ⟨⟨0, 0, 0, false, rfl, HNo.out.symm, fun h => by cases h⟩, below_new w _⟩
  · have hb : ((s.size : Int) == 10) = false := by simp; omega
    have HNo : Hid (formB s.data.toList = false) := Lib.hid (by
      cases e : formB s.data.toList with
      | false => rfl
      | true => have := (formB_iff.1 e).1; rw [← size_len] at this; exact absurd this h10)
    clear h10
    go_enter Tryz.func49, Tryz.ntmps49
    go_wp2_with fail
    all_goals exact bodyPost_ret (v := .tuple #[.agg #[.int .i64 0, .int .i64 0, .int .i64 0], .bool false]) (by simp [results, Tryz.results49, go_sem]) rfl ⟨⟨0, 0, 0, false, rfl, HNo.out.symm, fun h => by cases h⟩, below_new w _⟩

end Go.Proofs.YtdmdgoeacafpiaaGreatDoor
