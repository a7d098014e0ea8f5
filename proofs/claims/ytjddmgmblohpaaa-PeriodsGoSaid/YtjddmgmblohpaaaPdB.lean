/-
  Package periods: Lock, Earliest, Book, Copy: what they answer; the chapter's example.
-/
import Derived.Test.YtjddmgmblohpaaaPdA
import Derived.Deep.RegionWith
import Derived.Deep.RegionHeld3
namespace Go.Proofs.Ytjddmgmblohpaaa
open Go.RowKit Go.Lib
set_option linter.unusedVariables false
set_option linter.unusedSimpArgs false

/-- But for some blocks the world is as it was. -/
structure Off (F : Nat → Prop) (w w' : World) : Prop where
  os : w'.os = w.os
  tape : w'.tape = w.tape
  output : w'.output = w.output
  size : w.heap.size ≤ w'.heap.size
  block : ∀ k, k < w.heap.size → ¬ F k → w'.heap[k]? = w.heap[k]?
theorem Off.refl (F : Nat → Prop) (w : World) : Off F w w := ⟨rfl, rfl, rfl, Nat.le_refl _, fun _ _ _ => rfl⟩
theorem Off.trans {F F' : Nat → Prop} {w w1 w2 : World} (h : Off F w w1) (h' : Off F' w1 w2) (hF : ∀ k, F' k → F k ∨ w.heap.size ≤ k) : Off F w w2 :=
  ⟨h'.os.trans h.os, h'.tape.trans h.tape, h'.output.trans h.output, Nat.le_trans h.size h'.size, fun k hk hn => (h'.block k (Nat.lt_of_lt_of_le hk h.size) (fun c => (hF k c).elim hn (fun e => by omega))).trans (h.block k hk hn)⟩
theorem Off.mono {F F' : Nat → Prop} {w w' : World} (h : Off F w w') (hF : ∀ k, F k → F' k) : Off F' w w' := ⟨h.os, h.tape, h.output, h.size, fun k hk hn => h.block k hk (fun c => hn (hF k c))⟩
theorem Off.below {F : Nat → Prop} {w w' : World} {n : Nat} (h : Off F w w') (hF : ∀ k, F k → n ≤ k) (hn : n ≤ w.heap.size) : Below n w w' := ⟨h.os, h.tape, h.output, h.size, fun k hk => h.block k (Nat.lt_of_lt_of_le hk hn) (fun c => by have := hF k c; omega)⟩
theorem Off.of {F : Nat → Prop} {w w' : World} (h : Below w.heap.size w w') : Off F w w' := ⟨h.os, h.tape, h.output, h.size, fun k hk _ => h.block k hk⟩
theorem Off.grown {F : Nat → Prop} {w w' : World} {row : Option Nat} (h : w.grownBy w' row) (hF : ∀ k, row = some k → F k) : Off F w w' := ⟨h.os, h.tape, h.output, h.size, fun k hk hn => h.block k hk (fun e => hn (hF k e.symm))⟩
theorem Off.cell {F : Nat → Prop} {w w' : World} (h : Off F w w') {b i : Nat} {v : Value} (hc : w.cell? ⟨b, i, none⟩ = some v) (hn : ¬ F b) : w'.cell? ⟨b, i, none⟩ = some v := (World.cell?_of_block (h.block b (ltF hc) hn)).trans hc
theorem Off.frozen {F : Nat → Prop} {w w' : World} (h : Off F w w') {b i : Nat} (hb : b < w.heap.size) (hn : ¬ F b) : w'.frozen? ⟨b, i, none⟩ = w.frozen? ⟨b, i, none⟩ := World.frozen?_of_block (h.block b hb hn)
theorem Off.both {F : Nat → Prop} {w w1 w2 : World} (h : Off F w w1) (h' : Off F w1 w2) : Off F w w2 := h.trans h' (fun k c => .inl c)
theorem PdV.off {w w' : World} {b s l : Nat} {F : Nat → Prop} (h : PdV w b s l) (ho : Off F w w') (hn : ¬ F b) : PdV w' b s l :=
  ⟨ho.cell h.c0 hn, ho.cell h.c1 hn, (ho.frozen h.lt hn).trans h.f1⟩
theorem PdV.drew {w : World} {b s l : Nat} (h : PdV w b s l) : PdV w.drew b s l := ⟨h.c0, h.c1, h.f1⟩
/-- One more is locked. -/
theorem PdV.more {w : World} {b s l : Nat} (h : PdV w b s l) : PdV (w.setCell ⟨b, 1, none⟩ (.int .i64 ((l : Nat) + 1))) b s (l + 1) :=
  ⟨(cell_other (addr_ne_off (o := 1) (o' := 0) (by decide))).trans h.c0, by rw [cell_same h.c1]; rfl, by rw [World.frozen?_setCell]; exact h.f1⟩
theorem off_set {w : World} {b : Nat} (v : Value) : Off (fun k => k = b) w (w.setCell ⟨b, 1, none⟩ v) :=
  ⟨rfl, rfl, rfl, by simp, fun k hk hn => Below.heap_setCell w _ v k hn⟩

set_option maxRecDepth 100000 in
set_option maxHeartbeats 2000000 in
theorem earl_any (w : World) {b s l : Nat} (h : PdV w b s l) (h1 : 1 ≤ s) (h4 : s ≤ 400) : Calls Try.prog 11 #[.pointer (some ⟨b, 0, none⟩)] w fun e w' => e = .returned (.tuple #[.int .i64 (eaV s l), .int .i64 (eaE s l)]) ∧ Below w.heap.size w w' := by
  have HL := Lib.hid (fun w' => plast_any w' s h1 h4)
  have c0 := h.c0
  have c1 := h.c1
  unfold eaV eaE
  by_cases hc : lastP s < (l : Int)
  · rw [if_pos hc, if_pos hc]
    generalize lastP s = L at *
    go_enter Try.func11, Try.ntmps11
    go_wp2_with fail
    go_region_held3 (fun w' => w'.cell? ⟨b, 0, none⟩ = some (.int .i64 (s : Nat)) ∧ w'.cell? ⟨b, 1, none⟩ = some (.int .i64 (l : Nat))) (first | (with_reducible exact ⟨c0, c1⟩) | go_keep)
      (first
      | (go_at_call 20; (with_reducible refine (HL.out _).mono ?_); rintro e w' ⟨rfl, hb⟩; have c0 := keepF hb c0; have c1 := keepF hb c1))
    go_wp2_with fail
    go_ret2
    exact ⟨rfl, undrewB hb⟩
  · rw [if_neg hc, if_neg hc]
    generalize lastP s = L at *
    go_enter Try.func11, Try.ntmps11
    go_wp2_with fail
    go_region_held3 (fun w' => w'.cell? ⟨b, 0, none⟩ = some (.int .i64 (s : Nat)) ∧ w'.cell? ⟨b, 1, none⟩ = some (.int .i64 (l : Nat))) (first | (with_reducible exact ⟨c0, c1⟩) | go_keep)
      (first
      | (go_at_call 20; (with_reducible refine (HL.out _).mono ?_); rintro e w' ⟨rfl, hb⟩; have c0 := keepF hb c0; have c1 := keepF hb c1))
    go_wp2_with fail
    go_ret2
    exact ⟨rfl, undrewB hb⟩
set_option maxRecDepth 100000 in
set_option maxHeartbeats 2000000 in
theorem copy_any (w : World) {b s l : Nat} (h : PdV w b s l) : Calls Try.prog 19 #[.pointer (some ⟨b, 0, none⟩)] w fun e w' => ∃ c, e = .returned (.pointer (some ⟨c, 0, none⟩)) ∧ PdV w' c s l ∧ w.heap.size ≤ c ∧ Below w.heap.size w w' := by
  have c0 := h.c0
  have c1 := h.c1
  go_enter Try.func19, Try.ntmps19
  go_wp2_with fail
  go_region_held3 (fun w' => w'.cell? ⟨b, 0, none⟩ = some (.int .i64 (s : Nat)) ∧ w'.cell? ⟨b, 1, none⟩ = some (.int .i64 (l : Nat))) (first | (with_reducible exact ⟨c0, c1⟩) | go_keep)
    (fail)
  go_wp2_with fail
  go_ret
  exact ⟨_, rfl, PdV.new.drew, Nat.le_refl _, (newF _ _).drew⟩

set_option maxRecDepth 100000 in
set_option maxHeartbeats 2000000 in
theorem lock_any (w : World) {b s l : Nat} (h : PdV w b s l) (h1 : 1 ≤ s) (h4 : s ≤ 400) (p c : Int) : Calls Try.prog 12 #[.pointer (some ⟨b, 0, none⟩), .int .i64 p, .int .i64 c] w fun e w' => e = .returned (.int .i64 (lkE s l p c)) ∧ PdV w' b s (if lkE s l p c = 0 then l + 1 else l) ∧ Off (fun k => k = b) w w' := by
  have HS := Lib.hid (span_any w h h1 h4 p)
  have HP := Lib.hid h
  have hlt := h.lt
  clear h
  unfold lkE
  by_cases c1 : p < 0 ∨ lastP s < p
  · have e1 : spE s p = 10 := by unfold spE; rw [if_pos c1]
    rw [if_pos c1, if_neg (by decide)]
    rw [e1] at HS
    generalize spF s p = F at *
    generalize spT s p = T at *
    clear c1 e1
    go_enter Try.func12, Try.ntmps12
    go_wp2_with fail
    refine HS.out.mono ?_
    rintro e w1 ⟨rfl, hb⟩
    have HB := Lib.hid hb
    clear hb HS
    go_wp2_with fail
    go_ret
    exact ⟨rfl, HP.out.keep HB.out, Off.of HB.out⟩
  have e1 : spE s p = 0 := by unfold spE; rw [if_neg c1]
  rw [if_neg c1]
  rw [e1] at HS
  have hl2 := lastP_le s
  generalize spF s p = F at *
  generalize spT s p = T at *
  generalize lastP s = L at *
  by_cases c2 : p < (l : Int)
  · rw [if_pos c2, if_neg (by decide)]
    go_enter Try.func12, Try.ntmps12
    go_wp2_with fail
    refine HS.out.mono ?_
    rintro e w1 ⟨rfl, hb⟩
    have HB := Lib.hid hb
    have k1 := (HP.out.keep hb).c1
    clear hb HS
    go_wp2_with fail
    go_ret
    exact ⟨rfl, HP.out.keep HB.out, Off.of HB.out⟩
  by_cases c3 : (l : Int) < p
  · rw [if_neg c2, if_pos c3, if_neg (by decide)]
    go_enter Try.func12, Try.ntmps12
    go_wp2_with fail
    refine HS.out.mono ?_
    rintro e w1 ⟨rfl, hb⟩
    have HB := Lib.hid hb
    have k1 := (HP.out.keep hb).c1
    clear hb HS
    go_wp2_with fail
    go_ret
    exact ⟨rfl, HP.out.keep HB.out, Off.of HB.out⟩
  by_cases c4 : c ≤ T
  · rw [if_neg c2, if_neg c3, if_pos c4, if_neg (by decide)]
    go_enter Try.func12, Try.ntmps12
    go_wp2_with fail
    refine HS.out.mono ?_
    rintro e w1 ⟨rfl, hb⟩
    have HB := Lib.hid hb
    have k1 := (HP.out.keep hb).c1
    clear hb HS
    go_wp2_with fail
    go_ret
    exact ⟨rfl, HP.out.keep HB.out, Off.of HB.out⟩
  rw [if_neg c2, if_neg c3, if_neg c4, if_pos rfl]
  have hl : (l : Int) ≤ 73048 := by omega
  go_enter Try.func12, Try.ntmps12
  go_wp2_with fail
  refine HS.out.mono ?_
  rintro e w1 ⟨rfl, hb⟩
  have HB := Lib.hid hb
  have HP1 := Lib.hid (HP.out.keep hb)
  have k1 := (HP.out.keep hb).c1
  have k2 := (HP.out.keep hb).f1
  clear hb HS
  go_wp2_with fail
  go_ret
  exact ⟨rfl, HP1.out.more, (Off.of HB.out).both (off_set _)⟩
set_option maxRecDepth 100000 in
set_option maxHeartbeats 2000000 in
theorem book_any (w : World) {b s l : Nat} (h : PdV w b s l) (h1 : 1 ≤ s) (h4 : s ≤ 400) (d : Int) : Calls Try.prog 15 #[.pointer (some ⟨b, 0, none⟩), .int .i64 d] w fun e w' => e = .returned (.tuple #[.int .i64 (bkV s l d), .int .i64 (bkE s l d)]) ∧ Below w.heap.size w w' := by
  have HO := Lib.hid (of_any w h h1 h4 d)
  have HE := Lib.hid (fun w' hk => earl_any w' (b := b) (s := s) (l := l) hk h1 h4)
  have HL := Lib.hid (fun w' hk => locked_any w' (b := b) (s := s) (l := l) hk (ofV s d))
  have HP := Lib.hid h
  have hlt := h.lt
  have hv : 0 ≤ ofV s d := by
    unfold ofV
    split
    · omega
    · exact Int.ediv_nonneg (by omega) (by omega)
  clear h
  unfold bkV bkE
  by_cases c1 : ofE d = 0
  · rw [if_pos c1, if_pos c1]
    rw [c1] at HO
    generalize ofV s d = v at *
    by_cases c2 : eaE s l = 0
    · have e2 : eaV s l = (l : Int) := by
        unfold eaE at c2; unfold eaV
        by_cases c : lastP s < (l : Int)
        · rw [if_pos c] at c2; omega
        · rw [if_neg c]
      rw [if_pos c2]
      rw [c2, e2] at HE
      rw [c2]
      clear c2 e2
      by_cases c3 : v < (l : Int)
      · rw [if_pos c3]
        have e3 : lkB l v = true := by unfold lkB; exact decide_eq_true ⟨hv, c3⟩
        rw [e3] at HL
        clear e3 c3 hv
        go_enter Try.func15, Try.ntmps15
        go_wp2_with fail
        refine HO.out.mono ?_
        rintro e w1 ⟨rfl, hb⟩
        have HB := Lib.hid hb
        have HP1 := Lib.hid (HP.out.keep hb)
        clear hb HO
        go_wp2_with fail
        refine (HE.out _ HP1.out).mono ?_
        rintro e w2 ⟨rfl, hb⟩
        have HB2 := Lib.hid (onF HB.out hb)
        have HP2 := Lib.hid (HP1.out.keep hb)
        clear hb HE
        go_wp2_with fail
        refine (HL.out _ HP2.out).mono ?_
        rintro e w3 ⟨rfl, rfl⟩
        go_wp2_with fail
        go_ret2
        exact ⟨rfl, HB2.out⟩
      · rw [if_neg c3]
        have e3 : lkB l v = false := by unfold lkB; exact decide_eq_false (fun x => c3 x.2)
        rw [e3] at HL
        clear e3 c3 hv
        go_enter Try.func15, Try.ntmps15
        go_wp2_with fail
        refine HO.out.mono ?_
        rintro e w1 ⟨rfl, hb⟩
        have HB := Lib.hid hb
        have HP1 := Lib.hid (HP.out.keep hb)
        clear hb HO
        go_wp2_with fail
        refine (HE.out _ HP1.out).mono ?_
        rintro e w2 ⟨rfl, hb⟩
        have HB2 := Lib.hid (onF HB.out hb)
        have HP2 := Lib.hid (HP1.out.keep hb)
        clear hb HE
        go_wp2_with fail
        refine (HL.out _ HP2.out).mono ?_
        rintro e w3 ⟨rfl, rfl⟩
        go_wp2_with fail
        go_ret2
        exact ⟨rfl, HB2.out⟩
    · rw [if_neg c2]
      have b2 : (eaE s l != 0) = true := by simpa using c2
      generalize eaE s l = u at *
      generalize eaV s l = x at *
      clear c2 hv
      go_enter Try.func15, Try.ntmps15
      go_wp2_with fail
      refine HO.out.mono ?_
      rintro e w1 ⟨rfl, hb⟩
      have HB := Lib.hid hb
      have HP1 := Lib.hid (HP.out.keep hb)
      clear hb HO
      go_wp2_with fail
      refine (HE.out _ HP1.out).mono ?_
      rintro e w2 ⟨rfl, hb⟩
      have HB2 := Lib.hid (onF HB.out hb)
      clear hb HE
      go_wp2_with fail
      go_ret2
      exact ⟨rfl, HB2.out⟩
  · rw [if_neg c1, if_neg c1]
    have b1 : (ofE d != 0) = true := by simpa using c1
    generalize ofE d = u at *
    generalize ofV s d = x at *
    clear c1 hv
    go_enter Try.func15, Try.ntmps15
    go_wp2_with fail
    refine HO.out.mono ?_
    rintro e w1 ⟨rfl, hb⟩
    have HB := Lib.hid hb
    clear hb HO
    go_wp2_with fail
    go_ret2
    exact ⟨rfl, HB.out⟩

theorem ex_of : ofV 30 59 = 1 ∧ ofE 59 = 0 := by decide
theorem ex_l1 : lkE 30 0 1 100 = 24 := by decide
theorem ex_l2 : lkE 30 0 0 30 = 0 := by decide
theorem ex_l3 : lkE 30 1 0 40 = 19 := by decide
theorem ex_bk : bkV 30 1 5 = 1 ∧ bkE 30 1 5 = 0 := by decide
set_option maxRecDepth 100000 in
set_option maxHeartbeats 2000000 in
theorem awake13_any (w : World) : Calls Try.prog 10 #[] w fun e w' => e = .returned (.bool true) ∧ Below w.heap.size w w' := by
  have HN := Lib.hid (new_yes w 30 (by decide) (by decide))
  go_enter Try.func10, Try.ntmps10
  go_wp2_with fail
  refine HN.out.mono ?_
  rintro e w1 ⟨rfl, hp, hb⟩
  have HB1 := Lib.hid hb
  have HP1 := Lib.hid hp
  have HO := of_any w1 hp (by decide) (by decide) 59
  rw [ex_of.1, ex_of.2] at HO
  have HO := Lib.hid HO
  clear hp hb HN
  go_wp2_with fail
  refine HO.out.mono ?_
  rintro e w2 ⟨rfl, hb⟩
  have HB2 := Lib.hid (onF HB1.out hb)
  have HP2 := Lib.hid (HP1.out.keep hb)
  have HL := lock_any w2 HP2.out (by decide) (by decide) 1 100
  rw [ex_l1, if_neg (by decide)] at HL
  have HL := Lib.hid HL
  clear hb HO
  go_wp2_with fail
  refine HL.out.mono ?_
  rintro e w3 ⟨rfl, hp, ho⟩
  have HB3 := Lib.hid (HB2.out.trans (ho.below (n := w.heap.size) (fun k e => Nat.le_of_eq e.symm) HB2.out.size))
  have HP3 := Lib.hid hp
  have HL2 := lock_any w3 HP3.out (by decide) (by decide) 0 30
  rw [ex_l2, if_pos rfl] at HL2
  have HL2 := Lib.hid HL2
  clear hp ho HL
  go_wp2_with fail
  refine HL2.out.mono ?_
  rintro e w4 ⟨rfl, hp, ho⟩
  have HB4 := Lib.hid (HB3.out.trans (ho.below (n := w.heap.size) (fun k e => Nat.le_of_eq e.symm) HB3.out.size))
  have HP4 := Lib.hid hp
  have HL3 := lock_any w4 HP4.out (by decide) (by decide) 0 40
  rw [ex_l3, if_neg (by decide)] at HL3
  have HL3 := Lib.hid HL3
  clear hp ho HL2
  go_wp2_with fail
  refine HL3.out.mono ?_
  rintro e w5 ⟨rfl, hp, ho⟩
  have HB5 := Lib.hid (HB4.out.trans (ho.below (n := w.heap.size) (fun k e => Nat.le_of_eq e.symm) HB4.out.size))
  have HK := book_any w5 hp (by decide) (by decide) 5
  rw [ex_bk.1, ex_bk.2] at HK
  have HK := Lib.hid HK
  clear hp ho HL3
  go_wp2_with fail
  refine HK.out.mono ?_
  rintro e w6 ⟨rfl, hb⟩
  have HB6 := Lib.hid (onF HB5.out hb)
  clear hb HK
  go_wp2_with fail
  go_ret
  exact ⟨rfl, HB6.out⟩

end Go.Proofs.Ytjddmgmblohpaaa
