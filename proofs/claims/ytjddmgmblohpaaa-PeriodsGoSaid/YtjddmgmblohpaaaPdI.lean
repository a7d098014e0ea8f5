/-
  Package periods: All of periods that there are: the iterator's contract.
-/
import Derived.Test.YtjddmgmblohpaaaPdL
import Derived.Test.YtjddmgmblohpaaaPdN
import Derived.Sort.MapsRangeIn
namespace Go.Proofs.Ytjddmgmblohpaaa
open Go.RowKit Go.Lib Go.Maps Go.Sort Go.Shelf
set_option linter.unusedVariables false
set_option linter.unusedSimpArgs false
attribute [local go_sem] Oper.semAt_some

set_option maxRecDepth 100000 in
set_option maxHeartbeats 1000000 in
theorem upto_any (w : World) (l : Int) (c : Nat) : Calls Try.prog 24 #[.int .i64 l, .func (.func 14) #[.pointer (some ⟨c, 0, none⟩)] #[]] w fun e w' => ∃ B1 B2, e = .returned (.func (.func 25) #[] #[.pointer (some ⟨B1, 0, none⟩), .pointer (some ⟨B2, 0, none⟩)]) ∧ (w.heap.size ≤ B1 ∧ w.heap.size ≤ B2) ∧ w'.cell? ⟨B1, 0, none⟩ = some (.int .i64 l) ∧ w'.cell? ⟨B2, 0, none⟩ = some (.func (.func 14) #[.pointer (some ⟨c, 0, none⟩)] #[]) ∧ Below w.heap.size w w' := by
  have hb1 := newF w (.cells #[.int .i64 l] 3)
  have hb2 := onF hb1 (newF _ (.cells #[.func (.func 14) #[.pointer (some ⟨c, 0, none⟩)] #[]] 35))
  have k1 : (w.alloc (.cells #[.int .i64 l] 3)).cell? ⟨w.heap.size, 0, none⟩ = some (.int .i64 l) := (World.cell?_alloc_at _ _ _ _ rfl).trans rfl
  have k1 := keepF (newF _ (.cells #[.func (.func 14) #[.pointer (some ⟨c, 0, none⟩)] #[]] 35)) k1
  have k2 : ((w.alloc (.cells #[.int .i64 l] 3)).alloc (.cells #[.func (.func 14) #[.pointer (some ⟨c, 0, none⟩)] #[]] 35)).cell? ⟨(w.alloc (.cells #[.int .i64 l] 3)).heap.size, 0, none⟩ = some (.func (.func 14) #[.pointer (some ⟨c, 0, none⟩)] #[]) := (World.cell?_alloc_at _ _ _ _ rfl).trans rfl
  have HK := Lib.hid (And.intro k1 (And.intro k2 hb2))
  clear hb1 hb2 k1 k2
  go_enter Try.func24, Try.ntmps24
  go_wp2_with fail
  go_ret
  exact ⟨_, _, rfl, ⟨by simp, by simp⟩, HK.out.1, by have h := HK.out.2.1; rw [World.size_alloc] at h; exact h, HK.out.2.2⟩
set_option maxRecDepth 100000 in
set_option maxHeartbeats 1000000 in
theorem pall_any (w : World) {b s l : Nat} (h : PdV w b s l) (h1 : 1 ≤ s) (h4 : s ≤ 400) : Calls Try.prog 18 #[.pointer (some ⟨b, 0, none⟩)] w fun e w' => ∃ c B1 B2, e = .returned (.func (.func 25) #[] #[.pointer (some ⟨B1, 0, none⟩), .pointer (some ⟨B2, 0, none⟩)]) ∧ PdV w' c s l ∧ w.heap.size ≤ c ∧ (w.heap.size ≤ B1 ∧ w.heap.size ≤ B2) ∧ w'.cell? ⟨B1, 0, none⟩ = some (.int .i64 (lastP s)) ∧ w'.cell? ⟨B2, 0, none⟩ = some (.func (.func 14) #[.pointer (some ⟨c, 0, none⟩)] #[]) ∧ Below w.heap.size w w' := by
  have HL := Lib.hid (fun w' => plast_any w' s h1 h4)
  have HC := Lib.hid (fun w' (hk : PdV w' b s l) => copy_any w' hk)
  have HU := Lib.hid (fun w' L c => upto_any w' L c)
  have HP := Lib.hid h
  have c0 := h.c0
  clear h
  generalize lastP s = L at *
  go_enter Try.func18, Try.ntmps18
  go_wp2_with fail
  refine (HL.out _).mono ?_
  rintro e w1 ⟨rfl, hb⟩
  have HB1 := Lib.hid hb
  have HP1 := Lib.hid (HP.out.keep hb)
  clear hb c0
  go_wp2_with fail
  refine (HC.out _ HP1.out).mono ?_
  rintro e w2 ⟨c, rfl, hp, hc, hb⟩
  have HB2 := Lib.hid (onF HB1.out hb)
  have HP2 := Lib.hid hp
  have HC2 := Lib.hid (Nat.le_trans HB1.out.size hc)
  clear hp hc hb
  go_wp2_with fail
  refine (HU.out _ _ _).mono ?_
  rintro e w3 ⟨B1, B2, rfl, hq, k1, k2, hb⟩
  have HQ := Lib.hid (show w.heap.size ≤ B1 ∧ w.heap.size ≤ B2 from ⟨Nat.le_trans HB2.out.size hq.1, Nat.le_trans HB2.out.size hq.2⟩)
  have HB3 := Lib.hid (onF HB2.out hb)
  have HP3 := Lib.hid (HP2.out.keep hb)
  have HK := Lib.hid (And.intro k1 k2)
  clear hb k1 k2 hq
  go_wp2_with fail
  go_ret
  exact ⟨c, B1, B2, rfl, HP3.out, HC2.out, HQ.out, HK.out.1, HK.out.2, HB3.out⟩

theorem grown_belowP {w w' : World} (h : Below w.heap.size w w') : w.grownBy w' none := ⟨h.os, h.tape, h.output, h.size, fun k hk _ => h.block k hk⟩
set_option maxRecDepth 100000 in
set_option maxHeartbeats 2000000 in
/-- The iterator's contract: all periods, rising, and whether each is locked. -/
theorem upto_it (n : Nat) (hn : 1 ≤ n) (B1 B2 c s l N : Nat) (hN : lastP s = (N : Int)) (hl : N ≤ 73048) (w : World) (k1 : w.cell? ⟨B1, 0, none⟩ = some (.int .i64 (N : Nat))) (k2 : w.cell? ⟨B2, 0, none⟩ = some (.func (.func 14) #[.pointer (some ⟨c, 0, none⟩)] #[])) (hp : PdV w c s l) :
    SeqStopsK Fence.wide n Try.prog 25 #[.pointer (some ⟨B1, 0, none⟩), .pointer (some ⟨B2, 0, none⟩)] (fun i : Nat => #[.int .i64 (i : Nat), .bool (lkB l i)]) (fun A B => Below w.heap.size A B) (fun xs => xs = List.range (N + 1)) (fun pre => ∃ k, pre = List.range k) (N + 1) w := fun L J Jx W hW hJ _ hY h0 => by
  have k1' := keepF hW k1
  have HK2 := Lib.hid k2
  have HPd := Lib.hid hp
  clear hp k2
  refine callsIn_of_wp Try.func25 rfl trivial ?_ rfl
  simp only [Try.ntmps25, List.size_toArray, List.length_cons, List.length_nil, Nat.reduceAdd, Nat.reduceSub, Array.replicate_succ, Array.replicate_zero, List.push_toArray, List.append_toArray, List.nil_append, List.cons_append]
  gi_wp2
  gi_loopw [7] (fun vi wr => ∃ i : Nat, i ≤ N + 1 ∧ vi = .int .i64 (i : Nat) ∧ J (List.range i) wr ∧ Below w.heap.size w wr)
    (fun vi _ => N + 1 - (RowKit.intOf vi).toNat)
  case atStart => exact ⟨0, Nat.zero_le _, rfl, h0, hW⟩
  case round =>
    obtain ⟨i, hi, rfl, hJi, hbr⟩ := hrel
    by_cases hlt : i < N + 1
    · have p0 : (0 : Int) ≤ (i : Int) := by omega
      have p1 : (i : Int) < (N : Int) + 1 := by omega
      have k2 := keepF hbr HK2.out
      have HL := Lib.hid (locked_any wr (HPd.out.keep hbr) (i : Int))
      obtain ⟨fn, tmps, assign, body, hy, hR⟩ := hY (List.range i) i wr hJi (by simp; omega)
      have HBr := Lib.hid hbr
      have HLt := Lib.hid hlt
      have HR := Lib.hid hR
      clear hlt hJi hbr
      generalize lkB l (i : Int) = lk at *
      gi_wp2
      refine wideA HL.out ?_
      rintro e w1 ⟨rfl, rfl⟩
      gi_wp2
      refine HR.out.mono ?_
      rintro e W3 (⟨rfl, hJ3, hk3⟩ | ⟨rfl, hJx3⟩)
      · have HJ3 := Lib.hid hJ3
        have HB3 := Lib.hid (HBr.out.trans hk3)
        clear hJ3 hk3 hR hy
        gi_wp2
        go_roundw
        case rel => exact ⟨i + 1, HLt.out, by go_num, by rw [List.range_succ]; exact HJ3.out, HB3.out⟩
        case measure => have := HLt.out; simp [RowKit.intOf]; omega
      · have HX := Lib.hid hJx3
        clear hJx3 hR hy
        gi_wp2
        refine bodyPost_ret (results_none rfl _ _ _) rfl ?_
        exact ⟨⟨_, rfl⟩, .inr ⟨List.range i ++ [i], ⟨i + 1, List.range_succ.symm⟩, HX.out⟩⟩
    · have hie : i = N + 1 := by omega
      subst hie
      have p1 : ¬ ((N + 1 : Nat) : Int) < (N : Int) + 1 := by omega
      gi_wp2
      go_end0
      exact ⟨⟨_, rfl⟩, .inl (by rw [List.range_succ] at hJi; exact hJi)⟩

end Go.Proofs.Ytjddmgmblohpaaa
