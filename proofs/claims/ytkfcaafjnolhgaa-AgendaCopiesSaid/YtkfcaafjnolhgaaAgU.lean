/-
  Package agenda: Move: what it answers.
-/
import Derived.Test.YtkfcaafjnolhgaaAgJ
namespace Go.Proofs.Ytkfcaafjnolhgaa
open Go.RowKit Go.Lib Go.Maps Go.Sort
set_option linter.unusedVariables false
set_option linter.unusedSimpArgs false

theorem set_perm1 : ∀ (l : List It) (i : Nat) (x : It), i < l.length → (l.set i x).Perm (x :: l.eraseIdx i)
  | [], i, x, h => absurd h (Nat.not_lt_zero _)
  | y :: l, 0, x, h => List.Perm.refl _
  | y :: l, i + 1, x, h => (List.Perm.cons y (set_perm1 l i x (by simpa using h))).trans (List.Perm.swap x y _)
/-- The item of a number stands at another day: in order again. -/
theorem AgV.moved {w w' : World} {base a q bm n : Nat} {lv : Value} {L l l' : List It} {D' : DataW Unit} (h : AgV w base a q bm lv L n) (hp : l.Perm L) (hq : QuV w' base q bm lv l' D') (ho : Off (FpQ q bm lv) w w') {i : Nat} (hi : i < l.length) (d : Int) (hl' : l'.Perm (l.set i ⟨d, (itm l i).no, (itm l i).tag⟩)) : AgV w' base a q bm lv (inI ⟨d, (itm l i).no, (itm l i).tag⟩ (noI (itm l i).no L)) n ∧ Off (FpA a q bm lv) w w' := by
  have hget := itm_get hi
  have hmem : itm l i ∈ L := hp.mem_iff.1 (by rw [hget]; exact List.getElem_mem hi)
  have hset : (l.set i ⟨d, (itm l i).no, (itm l i).tag⟩).Perm (⟨d, (itm l i).no, (itm l i).tag⟩ :: l.eraseIdx i) := set_perm1 _ _ _ hi
  have her : (l.eraseIdx i ++ [itm l i]).Perm l := by
    rw [hget]
    have := (set_perm1 l i l[i] hi).symm
    rw [List.set_getElem_self] at this
    exact List.perm_append_comm.trans this
  have hno := perm_no her hp h.sr (fun y hy z hz e => h.noeq y hy z hz e)
  have hne : ∀ y ∈ noI (itm l i).no L, y.no ≠ (itm l i).no := fun y hy => ((noI_mem _ _ _).1 hy).2
  have hP : l'.Perm (inI ⟨d, (itm l i).no, (itm l i).tag⟩ (noI (itm l i).no L)) := (hl'.trans hset).trans ((List.Perm.cons _ hno).trans (inI_perm _ _).symm)
  have hS : SrI (inI ⟨d, (itm l i).no, (itm l i).tag⟩ (noI (itm l i).no L)) := inI_srt (noI_srt h.sr) hne
  have hN : ∀ y ∈ inI ⟨d, (itm l i).no, (itm l i).tag⟩ (noI (itm l i).no L), 0 ≤ y.no ∧ y.no < n := fun y hy => by
    rcases (inI_mem _ _ _).1 hy with rfl | hy
    · have := h.nb _ hmem
      exact this
    · exact h.nb _ ((noI_mem _ _ _).1 hy).1
  obtain ⟨h1, h2, _⟩ := h.queue hq ho (fun k c => .inl c) hP hS hN
  exact ⟨h1, h2⟩
set_option maxRecDepth 100000 in
set_option maxHeartbeats 4000000 in
theorem amove_ok (w : World) {base a q bm n : Nat} {lv : Value} {L : List It} (h : AgV w base a q bm lv L n) (hl : L.length ≤ 1000) {x : It} (hx : x ∈ L) (hxk : I64 x.no) (d : Int) (hd : 0 ≤ d ∧ d ≤ 73048) :
    Calls Try.prog 23 #[.pointer (some ⟨a, 0, none⟩), .int .i64 x.no, .int .i64 d] w fun e w' => e = .returned (.int .i64 0) ∧ AgV w' base a q bm lv (inI ⟨d, x.no, x.tag⟩ (noI x.no L)) n ∧ Off (FpA a q bm lv) w w' := by
  obtain ⟨l, D, hq, hp⟩ := h.qv
  obtain ⟨i, hi, hix⟩ := List.getElem_of_mem (hp.mem_iff.2 hx)
  have e : itm l i = x := by rw [itm_get hi, hix]
  have c0 := h.c0
  have HHas := Lib.hid (qhas_any _ hq.m x.no hxk)
  rw [(hq.p.perm_no x.no).2 ⟨x, hp.mem_iff.2 hx, rfl⟩] at HHas
  have HMb := Lib.hid (fun (w' : World) => maybe_any w' d)
  rw [decide_eq_true hd] at HMb
  have hmv := qmove_any w hq hi (by rw [hp.length_eq]; exact hl) d
  have hK := fun w' l' D' h1 h2 h3 => h.moved (w' := w') (l' := l') (D' := D') hp h1 h3 hi d h2
  rw [e] at hmv hK
  have HMv : Hid (Calls Try.prog 39 #[.pointer (some ⟨q, 0, none⟩), .int .i64 x.no, .int .i64 d] w fun e w' => e = .returned (.tuple #[]) ∧ AgV w' base a q bm lv (inI ⟨d, x.no, x.tag⟩ (noI x.no L)) n ∧ Off (FpA a q bm lv) w w') := Lib.hid (hmv.mono (by
    rintro e w' ⟨rfl, l', D', h1, h2, h3⟩
    exact ⟨rfl, hK w' l' D' h1 h2 h3⟩))
  clear h hq hp hi hix e hmv hK hd hx hxk hl
  go_enter Try.func23, Try.ntmps23
  go_wp2_with fail
  refine HHas.out.mono ?_
  rintro e w1 ⟨rfl, rfl⟩
  clear HHas
  go_wp2_with fail
  refine (HMb.out _).mono ?_
  rintro e w1 ⟨rfl, rfl⟩
  clear HMb
  go_wp2_with fail
  refine HMv.out.mono ?_
  rintro e w1 ⟨rfl, h1⟩
  have HE := Lib.hid h1
  clear HMv h1
  go_wp2_with fail
  go_ret
  exact ⟨rfl, HE.out⟩
set_option maxRecDepth 100000 in
set_option maxHeartbeats 4000000 in
theorem amove_day (w : World) {base a q bm n : Nat} {lv : Value} {L : List It} (h : AgV w base a q bm lv L n) {x : It} (hx : x ∈ L) (hxk : I64 x.no) (d : Int) (hd : ¬ (0 ≤ d ∧ d ≤ 73048)) :
    Calls Try.prog 23 #[.pointer (some ⟨a, 0, none⟩), .int .i64 x.no, .int .i64 d] w fun e w' => e = .returned (.int .i64 18) ∧ w' = w := by
  obtain ⟨l, D, hq, hp⟩ := h.qv
  have c0 := h.c0
  have HHas := Lib.hid (qhas_any _ hq.m x.no hxk)
  rw [(hq.p.perm_no x.no).2 ⟨x, hp.mem_iff.2 hx, rfl⟩] at HHas
  have HMb := Lib.hid (fun (w' : World) => maybe_any w' d)
  rw [decide_eq_false hd] at HMb
  clear h hq hp hd hx hxk
  go_enter Try.func23, Try.ntmps23
  go_wp2_with fail
  refine HHas.out.mono ?_
  rintro e w1 ⟨rfl, rfl⟩
  clear HHas
  go_wp2_with fail
  refine (HMb.out _).mono ?_
  rintro e w1 ⟨rfl, rfl⟩
  clear HMb
  go_wp2_with fail
  go_ret
  exact ⟨rfl, rfl⟩
set_option maxRecDepth 100000 in
set_option maxHeartbeats 4000000 in
theorem amove_no (w : World) {base a q bm n : Nat} {lv : Value} {L : List It} (h : AgV w base a q bm lv L n) (no d : Int) (hk : I64 no) (hno : ∀ x ∈ L, x.no ≠ no) :
    Calls Try.prog 23 #[.pointer (some ⟨a, 0, none⟩), .int .i64 no, .int .i64 d] w fun e w' => e = .returned (.int .i64 16) ∧ w' = w := by
  obtain ⟨l, D, hq, hp⟩ := h.qv
  have c0 := h.c0
  have HHas := Lib.hid (qhas_any _ hq.m no hk)
  have hfl : Maps.has D (kI no) = false := by
    cases hc : Maps.has D (kI no) with
    | false => rfl
    | true =>
      obtain ⟨x, hx, e⟩ := (hq.p.perm_no _).1 hc
      exact absurd e (hno x (hp.mem_iff.1 hx))
  rw [hfl] at HHas
  clear h hq hp hk hno hfl
  go_enter Try.func23, Try.ntmps23
  go_wp2_with fail
  refine HHas.out.mono ?_
  rintro e w1 ⟨rfl, rfl⟩
  clear HHas
  go_wp2_with fail
  go_ret
  exact ⟨rfl, rfl⟩

end Go.Proofs.Ytkfcaafjnolhgaa
