/-
  For any two numbers, any numbers and wherever they begin chattellaw01.AmountOrder answers true, and its arguments read behind the call as they did before. No condition.
-/
import Derived.Test.YtaclniiagfpldaaFrame
import Derived.Test.YtaclniiagfpldaaOrder
namespace Go.Proofs.Ytaclniiagfpldaa.amountOrder
open Go.ChangeShapes Go.WideShapes Go.ChangeAt Go.RowKit
open Go.ChangeMaps (open_string shut_string)
set_option linter.unusedVariables false

theorem walk (x y : Int) (a : Option Addr) (len cap : Nat) (zs : List Int) (fr : Int) (w : World) (wx : -9223372036854775808 ≤ x ∧ x ≤ 9223372036854775807) (wy : -9223372036854775808 ≤ y ∧ y ≤ 9223372036854775807)
    (wl : IsRow .i64 w a len cap zs) (wf : -9223372036854775808 ≤ fr ∧ fr ≤ 9223372036854775807) :
    Calls Try.prog 6 #[.agg #[.int .i64 x, .int .i64 y], .slice a len cap, .int .i64 fr] w fun e w' => e = .returned (.bool true) ∧ Below w.heap.size w w' := by
  obtain ⟨hmax, hp⟩ := wl.parts
  by_cases c : 40 < len
  · exact order_long x y fr a len cap w c hmax
  · have T := two_c x y wx.1 wx.2 wy.1 wy.2
    have hng : fitE (x + y) = 0 → y ≠ -9223372036854775808 → (∀ w', Calls Try.prog 12 #[.int .i64 y] w' fun e w'' => e = .returned (.tuple #[.int .i64 (-y), .int .i64 0]) ∧ w' = w'') ∧
      ∀ w' : World, Calls Try.prog 14 #[.slice (some ⟨w'.heap.size, 0, none⟩) 2 2] (w'.alloc (.cells #[.int .i64 (fitN (x + y)), .int .i64 (-y)] 3)) fun e w'' => e = .returned (.tuple #[.int .i64 x, .int .i64 0]) ∧ (w'.alloc (.cells #[.int .i64 (fitN (x + y)), .int .i64 (-y)] 3)) = w'' := by
      intro hE hy
      have hin := fitE_zero hE
      have hr := (inR_iff _).1 hin
      refine ⟨fun w' => neg_ok y w' hy wy.1 wy.2, fun w' => ?_⟩
      rw [fitN_in hin]
      have hrow : Row (w'.alloc (.cells #[.int .i64 (x + y), .int .i64 (-y)] 3)) w'.heap.size 0 [x + y, -y] := fun t ht => by
        rw [World.cell?_alloc_at _ _ _ _ rfl]
        have : t = 0 ∨ t = 1 := by simp at ht; omega
        rcases this with rfl | rfl <;> rfl
      have hii : InI [x + y, -y] := fun t => by
        by_cases h2 : t < 2
        · have : t = 0 ∨ t = 1 := by omega
          rcases this with rfl | rfl
          · exact hr
          · show -9223372036854775808 ≤ -y ∧ -y ≤ 9223372036854775807; omega
        · rw [List.getD_eq_getElem?_getD, List.getElem?_eq_none (by simp; omega)]; exact ⟨by decide, by decide⟩
      have hs := sum_row [x + y, -y] w'.heap.size 0 2 _ hrow hii (by simp)
      have e1 : sumL [x + y, -y] = x := by show 0 + (x + y) + -y = x; omega
      rw [e1, fitN_in ((inR_iff x).2 wx), fitE_in ((inR_iff x).2 wx)] at hs
      exact hs
    rcases hp with h0 | ⟨b, o, rfl, hb, l, rfl, hr, hi⟩
    · subst h0
      have hi0 : InI [] := fun t => by simp
      exact order_core x y fr _ _ _ _ 0 0 [] a 0 cap w (by simp) T (fun h => by simp at h) (fun h => by simp at h) hi0 (fun w' _ => sum_nil a cap w') (fun w' base v h => sum_own (l := []) h hi0 (by simp)) hng
    · by_cases c0 : l.length = 0
      · have e : l = [] := List.length_eq_zero_iff.1 c0
        subst e
        exact order_core x y fr _ _ _ _ 0 0 [] _ 0 cap w (by simp) T (fun h => by simp at h) (fun h => by simp at h) hi (fun w' _ => sum_nil _ cap w') (fun w' base v h => sum_own (l := []) h hi (by simp)) hng
      · have hpos : (0 : Int) < (l.length : Int) := by omega
        have hB0 : 0 ≤ (fr.tmod l.length + l.length).tmod l.length := Int.tmod_nonneg _ (by have := Int.lt_tmod_of_pos fr hpos; omega)
        have hB1 : (fr.tmod l.length + l.length).tmod l.length < l.length := Int.tmod_lt_of_pos _ hpos
        obtain ⟨B, hB⟩ := Int.eq_ofNat_of_zero_le hB0
        rw [hB] at hB1
        have hBn : B < l.length := by omega
        have hit : InI (turnK l B l.length) := fun t => by
          by_cases ht : t < l.length
          · rw [turnK_at l B ht]; exact hi _
          · rw [List.getD_eq_getElem?_getD, List.getElem?_eq_none (by rw [turnK_len]; omega)]; exact ⟨by decide, by decide⟩
        refine order_core x y fr _ _ _ _ (fitN (sumL l)) (fitE (sumL l)) l _ B cap w (by omega) T (fun _ => ⟨b, o, rfl, hb, hr⟩) (fun _ => ⟨hBn, hB⟩) hi
          (fun w' hbl => sum_row l b o cap w' (fun t ht => by rw [hbl.cell (p := ⟨b, o + t, none⟩) hb]; exact hr t ht) hi (by omega)) (fun w' base v h => ?_) hng
        have := sum_own h hit (by rw [turnK_len]; omega)
        rw [turn_sum l B hBn] at this
        exact this

set_option maxRecDepth 100000 in
theorem lifted (os : Os) (started : os.Started) (H : Type) (enc : TypeId × Value → H) :
    ReturnsInHanded {} Try.checked os 6 .any (Rows.amountOrderSpec.pre6 enc Try.prog Try.f6 Rows.amountOrderRow.domain false) (Rows.amountOrderSpec.post enc Try.prog Try.f6 false true false false) := by
  refine returnsInHanded_of_change (C := Try.checked) own started (by kernel_rfl) Try.func6
    (ChangeSpec.witness6 (enc := enc) (C := Try.checked) false ⟨#[], #[.agg #[.int .i64 0, .int .i64 0], .slice none 0 0, .int .i64 0], []⟩ 8 (by kernel_rfl) (by kernel_rfl) (by kernel_rfl) (by kernel_rfl)) ?_
  intro W base args ds gs before hval0 hW hcnd _
  have hval : ∀ (j : Nat) t v, Try.f6.params[j]? = some t → args[j]? = some v → Value.okWide Try.prog W .any base t v := hval0
  have hW' := hW
  obtain ⟨p, q, hA0, hV, rfl, hfz, hnd⟩ := hW
  have hA : DataW.TrodAll enc Try.prog W 0 (fun _ => true) true Try.f6.params.toList args.toList ds p := hA0
  rw [Try.params6] at hA hval
  obtain ⟨v0, vs0, d0, ds0, p0, q0, hargs, rfl, rfl, h0, r0⟩ := trodAll_cons hA
  obtain ⟨v1, vs1, d1, ds1, p1, q1, rfl, rfl, rfl, h1, r1⟩ := trodAll_cons r0
  obtain ⟨v2, vs2, d2, ds2, p2, q2, rfl, rfl, rfl, h2, r2⟩ := trodAll_cons r1
  obtain ⟨rfl, rfl, rfl⟩ := trodAll_nil r2
  obtain rfl : args = #[v0, v1, v2] := by cases args; simp_all
  obtain ⟨rfl, rfl⟩ := trodVars_none hV
  have k0 := h0
  have lt0 : ∀ x ∈ p0, x.block < W.heap.size := by obtain ⟨m, hm⟩ := k0; exact DataW.trod_lt m _ _ _ hm
  obtain ⟨x0, y0, rfl, wx0, wy0⟩ := open_two (hval 0 46 v0 rfl rfl) h0
  obtain ⟨a1, len1, cap1, rfl⟩ := okWide_slice Try.underlying22 (hval 1 22 v1 rfl rfl)
  have k1 := h1
  have lt1 : ∀ x ∈ p1, x.block < W.heap.size := by obtain ⟨m, hm⟩ := k1; exact DataW.trod_lt m _ _ _ hm
  obtain ⟨z1, w1⟩ : ∃ zs, IsRow .i64 W a1 len1 cap1 zs := by
    obtain ⟨fuel, hf⟩ := h1
    rcases open_ints Try.underlying22 Try.underlying3 (by kernel_rfl) hf with ⟨hcs, _⟩ | ⟨x, l, c, zs, hcs, _, hl, hm, hz, _, hcell, hwz⟩
    · simp [Value.cells] at hcs
      obtain ⟨rfl, rfl, rfl⟩ := hcs
      exact ⟨[], .inl ⟨rfl, rfl, rfl, rfl⟩⟩
    · simp [Value.cells] at hcs
      obtain ⟨rfl, rfl, rfl⟩ := hcs
      exact ⟨zs, .inr ⟨_, rfl, hl, hm, by simpa using hz, hcell, hwz⟩⟩
  obtain ⟨a2, rfl, rfl, rfl, w2⟩ := open_int Try.underlying3 (hval 2 3 v2 rfl rfl) h2
  clear hA0 hval0
  refine (walk x0 y0 a1 len1 cap1 z1 a2 W wx0 wy0 w1 (wf_bd w2)).mono fun e W' ⟨he, bel⟩ => ?_
  subst he
  exact ⟨_, rfl, _, _, _, [], _, [], hW', trodAll_mk1 (shut_bool Try.underlying4 _), (trodAll_cons_mk (Below.trod laidOut (by kernel_rfl) (of_decide_eq_true (by kernel_rfl)) k0 bel lt0) (trodAll_cons_mk (Below.trod laidOut (by kernel_rfl) (of_decide_eq_true (by kernel_rfl)) k1 bel lt1) (trodAll_cons_mk (shut_int Try.underlying3 w2) trodAll_mk0))), rfl, bel.frame _, fun h => by cases h⟩

theorem over : Rows.amountOrderRow.holds Try.pinned (OpenSpec.ofChange Rows.amountOrderSpec) :=
  OpenClaim.holds_of_wide 6 Try.f6 rfl rfl rfl rfl rfl rfl rfl ⟨rfl, rfl, rfl, rfl, rfl⟩ rfl rfl rfl rfl rfl (by kernel_rfl) Try.func6 (by kernel_rfl)
    (of_decide_eq_true (by kernel_rfl)) (by unfold Func.isWrapper; first | (rw [if_pos (by decide +kernel)]; kernel_rfl) | (rw [if_neg (by decide +kernel)]; exact ⟨rfl, rfl⟩))
    (fun os started H enc _ => lifted os started H enc)

/-- The statement. -/
theorem proved : Rows.AmountOrderSaid := over
#print axioms proved
end Go.Proofs.Ytaclniiagfpldaa.amountOrder
