/-
  Package ratio: what is done with two ratios.
-/
import Derived.Test.YtbjjogbnndmmmaaDoorRatF
namespace Go.Proofs.YtbjjogbnndmmmaaDoor
open Go.RowKit
set_option linter.unusedVariables false

theorem drew_belowR {w w' : World} (h : Below w.drew.heap.size w.drew w') : Below w.heap.size w w' := ⟨h.os, h.tape, h.output, h.size, h.block⟩

theorem first_new (e f : Int) (w : World) :
    Calls Tryd.prog 68 #[.slice (some ⟨w.heap.size, 0, none⟩) 2 2] (w.alloc (.cells #[.int .i64 e, .int .i64 f] 25)) fun r w' => r = .returned (.int .i64 (firstE e f)) ∧ (w.alloc (.cells #[.int .i64 e, .int .i64 f] 25)) = w' :=
  first_any e f w.heap.size 2 _ (by rw [World.cell?_alloc_at _ _ _ _ rfl]; rfl) (by rw [World.cell?_alloc_at _ _ _ _ rfl]; rfl)

set_option maxHeartbeats 2000000 in
set_option maxRecDepth 100000 in
theorem both_any (na da nb db x y c : Int) (f : FuncId) (cap : Array Value) (w : World) (na0 : -9223372036854775808 ≤ na) (na1 : na ≤ 9223372036854775807) (da0 : -9223372036854775808 ≤ da) (da1 : da ≤ 9223372036854775807)
    (nb0 : -9223372036854775808 ≤ nb) (nb1 : nb ≤ 9223372036854775807) (db0 : -9223372036854775808 ≤ db) (db1 : db ≤ 9223372036854775807)
    (hd : firstE (chkE na da) (chkE nb db) = 0 → ∀ W, Below w.heap.size w W → Calls Tryd.prog f cap W fun e w' => e = .returned (tup x y c) ∧ Below W.heap.size W w')
    (hent : ∀ W, (callFunc f cap).run Tryd.prog W = .ok (.enter f cap) W)
    (he : firstE (chkE na da) (chkE nb db) ≠ 0 → x = 0 ∧ y = 0 ∧ c = firstE (chkE na da) (chkE nb db)) :
    Calls Tryd.prog 48 #[.agg #[.int .i64 na, .int .i64 da], .agg #[.int .i64 nb, .int .i64 db], .func (.func f) #[] cap] w fun e w' => e = .returned (tup x y c) ∧ Below w.heap.size w w' := by
  have HD : Hid (firstE (chkE na da) (chkE nb db) = 0 → ∀ W, Below w.heap.size w W → Calls Tryd.prog f cap W fun e w' => e = .returned (tup x y c) ∧ Below W.heap.size W w') := Lib.hid hd
  have HE : Hid (firstE (chkE na da) (chkE nb db) ≠ 0 → x = 0 ∧ y = 0 ∧ c = firstE (chkE na da) (chkE nb db)) := Lib.hid he
  clear hd he
  unfold tup at HD ⊢
  go_enter Tryd.func48, Tryd.ntmps48
  go_wp2_with fail
  have HB := Lib.hid (Box2.start w na da nb db 23)
  generalize (((w.alloc (.cells #[.int .i64 na, .int .i64 da] 23)).alloc (.cells #[.int .i64 nb, .int .i64 db] 23)).alloc (.cells #[.int .i64 0, .int .i64 0] 23)) = W at HB ⊢
  obtain ⟨a0, a1, b0, b1, r0, r1, f0, f1, _, _⟩ := id HB.out
  go_cut [8] (fun t wx => t = .int .i64 (firstE (chkE na da) (chkE nb db)) ∧ Box2 w wx na da nb db)
  case first =>
    have HC1 := Lib.hid (check_any na da W.drew na0 na1 da0 da1)
    have HC2 := Lib.hid (fun w => check_any nb db w nb0 nb1 db0 db1)
    generalize chkE na da = e1 at *
    generalize chkE nb db = e2 at *
    go_region_with (first | (go_at_call 29; refine HC1.out.mono ?_; rintro e w1 ⟨rfl, hb1⟩; have HB1 := Lib.hid (HB.out.keep (drew_belowR hb1)); obtain ⟨a0', a1', b0', b1', _, _, _, _, _, _⟩ := id HB1.out; clear hb1 HC1) | (go_at_call 29; refine (HC2.out _).mono ?_; rintro e w2 ⟨rfl, hb2⟩; have HB2 := Lib.hid (HB1.out.keep hb2); have HFi := Lib.hid (first_new e1 e2 w2); clear hb2 HC2) | (go_at_call 68; refine HFi.out.mono ?_; rintro e w3 ⟨rfl, rfl⟩))
    all_goals go_wp2
    all_goals go_meet
    all_goals exact ⟨rfl, HB2.out.keep (Below.alloc (Below.refl _ _) (Nat.le_refl _) _)⟩
  case rest =>
    obtain ⟨rfl, hB⟩ := hcut
    rename_i wc
    clear a0 a1 b0 b1 r0 r1 f0 f1 HB
    have HB2 := Lib.hid hB
    obtain ⟨a0, a1, b0, b1, r0, r1, f0, f1, _, _⟩ := hB
    generalize firstE (chkE na da) (chkE nb db) = er at *
    by_cases h : er = 0
    · have HDo := Lib.hid (HD.out h)
      subst h
      clear HD HE
      go_wp2_with fail
      refine (HDo.out _ HB2.out.bel).mono ?_
      rintro e w3 ⟨rfl, hb3⟩
      have HB3 := Lib.hid (HB2.out.keep hb3)
      clear hb3 HDo a0 a1 b0 b1 r0 r1 f0 f1 HB2
      obtain ⟨a0, a1, b0, b1, r0, r1, f0, f1, _, _⟩ := id HB3.out
      go_wp2_with fail
      exact bodyPost_ret (v := .tuple #[.agg #[.int .i64 x, .int .i64 y], .int .i64 c]) (by simp [results, Tryd.results48, go_sem, r0, r1]) rfl ⟨rfl, HB3.out.done _ _⟩
    · obtain ⟨hx, hy, hc⟩ := HE.out h
      subst hx; subst hy; subst hc
      have hb : (c != 0) = true := by simpa using h
      have hc : (c == 0) = false := by simpa using h
      have hs : w.heap.size + 1 + 1 < wc.heap.size := by have := HB2.out.sz; omega
      clear HD HE h
      go_wp2_with fail
      exact bodyPost_ret (v := .tuple #[.agg #[.int .i64 0, .int .i64 0], .int .i64 c]) (by simp [results, Tryd.results48, go_sem, r0, r1, hs]) rfl ⟨rfl, Below.alloc (HB2.out.done _ _) (by have := HB2.out.bel.size; simpa using this) _⟩

end Go.Proofs.YtbjjogbnndmmmaaDoor
