/-
  Package agenda: slices.Values over items: the iterator's contract.
-/
import Derived.Test.YtkfcaafjnolhgaaAgT
import Derived.Test.YtkfcaafjnolhgaaAgL
import Derived.Sort.MapsRangeIn
namespace Go.Proofs.Ytkfcaafjnolhgaa
open Go.RowKit Go.Lib Go.Maps Go.Sort Go.Shelf
set_option linter.unusedVariables false
set_option linter.unusedSimpArgs false
attribute [local go_sem] Oper.semAt_some

theorem grown_below {w w' : World} (h : Below w.heap.size w w') : w.grownBy w' none := ⟨h.os, h.tape, h.output, h.size, fun k hk _ => h.block k hk⟩
theorem take_itm {l : List It} {i : Nat} (hi : i < l.length) : l.take (i + 1) = l.take i ++ [l.getD i default] := by
  rw [List.take_add_one, List.getElem?_eq_getElem hi, List.getD_eq_getElem?_getD, List.getElem?_eq_getElem hi]
  rfl
set_option maxRecDepth 100000 in
set_option maxHeartbeats 2000000 in
theorem vals_it (n : Nat) (hn : 1 ≤ n) (Bs : Nat) (v : Value) (m : List It) (hl : m.length ≤ 100000) (w : World) (hc : w.cell? ⟨Bs, 0, none⟩ = some v) (hr : RowX itL 3 w v m) :
    SeqStopsK Fence.wide n Try.prog 42 #[.pointer (some ⟨Bs, 0, none⟩)] (fun x => #[.agg (itL x).toArray]) (fun A B => Below w.heap.size A B) (fun xs => xs = m) (fun pre => ∃ ys, m = pre ++ ys) m.length w := fun l J Jx W hW hJ _ hY h0 => by
  have hr' := hr.keep hW
  have hc' := keepF hW hc
  obtain ⟨va, vc, rfl⟩ : ∃ a c, v = .slice a m.length c := hr.slice
  refine callsIn_of_wp Try.func42 rfl trivial ?_ rfl
  simp only [Try.ntmps42, List.size_toArray, List.length_cons, List.length_nil, Nat.reduceAdd, Nat.reduceSub, Array.replicate_succ, Array.replicate_zero, List.push_toArray, List.append_toArray, List.nil_append, List.cons_append]
  gi_wp2
  gi_loopw [7] (fun vi wr => ∃ i : Nat, i ≤ m.length ∧ vi = .int .i64 (i : Nat) ∧ J (m.take i) wr ∧ Below w.heap.size w wr ∧ W.heap.size ≤ wr.heap.size)
    (fun vi _ => m.length - (RowKit.intOf vi).toNat)
  case atStart => exact ⟨0, Nat.zero_le _, rfl, h0, hW, Nat.le_refl _⟩
  case round =>
    obtain ⟨i, hi, rfl, hJi, hbr, hsz⟩ := hrel
    by_cases hlt : i < m.length
    · have p0 : (0 : Int) ≤ (i : Int) := by omega
      have p1 : (i : Int) < (m.length : Int) := by omega
      obtain ⟨g, o, cap, hv, hc1, hc2, hT⟩ : ∃ g o cap, Value.slice va m.length vc = .slice (some ⟨g, o, none⟩) m.length cap ∧ m.length ≤ cap ∧ cap ≤ 9223372036854775807 ∧ ∀ j, j < m.length → ∀ i c, i < 3 → (itL (m.getD j default))[i]? = some c → wr.cell? ⟨g, o + j * 3 + i, none⟩ = some c := by
        rcases hr.keep hbr with ⟨e, _⟩ | ⟨_, g, o, cap, h1, h2, h3, h4⟩
        · rw [e] at hlt; exact absurd hlt (Nat.not_lt_zero _)
        · exact ⟨g, o, cap, h1, h2, h3, h4⟩
      injection hv with hv1 _ hv3
      subst hv1 hv3
      have k0 : wr.cell? ⟨g, o + i * 3, none⟩ = some (.int .i64 (m.getD i default).d) := hT i hlt 0 _ (by omega) rfl
      have k1 : wr.cell? ⟨g, o + i * 3 + 1, none⟩ = some (.int .i64 (m.getD i default).no) := hT i hlt 1 _ (by omega) rfl
      have k2 : wr.cell? ⟨g, o + i * 3 + 2, none⟩ = some (.int .i64 (m.getD i default).tag) := hT i hlt 2 _ (by omega) rfl
      have HTk := Lib.hid (take_itm hlt)
      generalize m.getD i default = y at *
      obtain ⟨yd, yn, yt⟩ := y
      dsimp only at k0 k1 k2
      have HLt := Lib.hid hlt
      clear hT hlt
      have hbx := newF wr (.cells #[.int .i64 yd, .int .i64 yn, .int .i64 yt] 31)
      have hJ2 : J (m.take i) (wr.alloc (.cells #[.int .i64 yd, .int .i64 yn, .int .i64 yt] 31)) := hJ _ wr _ none hJi (grown_below hbx) (fun r e => by cases e)
      obtain ⟨fn, tmps, assign, body, hy, hR⟩ := hY (m.take i) ⟨yd, yn, yt⟩ _ hJ2 (by rw [List.length_take]; have := HLt.out; omega)
      have HBr := Lib.hid (onF hbr hbx)
      have HSz : Hid (W.heap.size ≤ (wr.alloc (.cells #[.int .i64 yd, .int .i64 yn, .int .i64 yt] 31)).heap.size) := Lib.hid (Nat.le_trans hsz hbx.size)
      dsimp only [itL] at hy
      clear hbx hJ2 hJi hbr hsz
      gi_wp2
      refine hR.mono ?_
      rintro e W3 (⟨rfl, hJ3, hk3⟩ | ⟨rfl, hJx3⟩)
      · have HJ3 := Lib.hid hJ3
        have HB3 := Lib.hid (HBr.out.trans hk3)
        have HSz3 : Hid (W.heap.size ≤ W3.heap.size) := Lib.hid (Nat.le_trans HSz.out hk3.size)
        clear hJ3 hk3 hR hy
        gi_wp2
        go_roundw
        case rel => exact ⟨i + 1, HLt.out, by go_num, by rw [HTk.out]; exact HJ3.out, HB3.out, HSz3.out⟩
        case measure => have := HLt.out; simp [RowKit.intOf]; omega
      · have HX := Lib.hid hJx3
        clear hJx3 hR hy
        gi_wp2
        refine bodyPost_ret (results_none rfl _ _ _) rfl ?_
        refine ⟨⟨_, rfl⟩, .inr ⟨m.take i ++ [⟨yd, yn, yt⟩], ⟨m.drop (i + 1), ?_⟩, HX.out⟩⟩
        rw [← HTk.out]; exact (List.take_append_drop _ _).symm
    · have hie : i = m.length := by omega
      subst hie
      rw [List.take_length] at hJi
      have p1 : ¬ (m.length : Int) < (m.length : Int) := by omega
      gi_wp2
      go_end0
      exact ⟨⟨_, rfl⟩, .inl hJi⟩

end Go.Proofs.Ytkfcaafjnolhgaa
