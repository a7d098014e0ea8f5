/-
  Package agenda: New, Len, Put, Next, Take, Drop: what they answer.
-/
import Derived.Test.YtkfcaafjnolhgaaAgG
namespace Go.Proofs.Ytkfcaafjnolhgaa
open Go.RowKit Go.Lib Go.Maps Go.Sort
set_option linter.unusedVariables false
set_option linter.unusedSimpArgs false

/-- The blocks of an agenda. -/
def FpA (a q bm : Nat) (lv : Value) (k : Nat) : Prop := k = a ∨ FpQ q bm lv k
/-- An agenda in memory: which items, in order, and how many were put. -/
structure AgV (w : World) (base a q bm : Nat) (lv : Value) (L : List It) (n : Nat) : Prop where
  c0 : w.cell? ⟨a, 0, none⟩ = some (.pointer (some ⟨q, 0, none⟩))
  c1 : w.cell? ⟨a, 1, none⟩ = some (.int .i64 (n : Nat))
  f1 : w.frozen? ⟨a, 1, none⟩ = false
  qv : ∃ l D, QuV w base q bm lv l D ∧ l.Perm L
  na : ¬ FpQ q bm lv a
  ba : base ≤ a
  sr : SrI L
  nb : ∀ x ∈ L, 0 ≤ x.no ∧ x.no < n
theorem AgV.off {w w' : World} {base a q bm n : Nat} {lv : Value} {L : List It} {F : Nat → Prop} (h : AgV w base a q bm lv L n) (ho : Off F w w') (hF : ∀ k, FpA a q bm lv k → ¬ F k) : AgV w' base a q bm lv L n := by
  obtain ⟨l, D, h1, h2⟩ := h.qv
  exact ⟨ho.cell h.c0 (hF a (.inl rfl)), ho.cell h.c1 (hF a (.inl rfl)), (ho.frozen (ltF h.c0) (hF a (.inl rfl))).trans h.f1, ⟨l, D, h1.off ho (fun k hk => hF k (.inr hk)), h2⟩, h.na, h.ba, h.sr, h.nb⟩
theorem AgV.keep {w w' : World} {base a q bm n : Nat} {lv : Value} {L : List It} (h : AgV w base a q bm lv L n) (hb : Below w.heap.size w w') : AgV w' base a q bm lv L n := h.off (Off.of (F := fun _ => False) hb) (fun _ _ c => c)
theorem AgV.lo {w : World} {base a q bm n : Nat} {lv : Value} {L : List It} (h : AgV w base a q bm lv L n) : ∀ k, FpA a q bm lv k → base ≤ k := by
  obtain ⟨l, D, h1, h2⟩ := h.qv
  rintro k (rfl | e)
  · exact h.ba
  · exact h1.m.lo k e
theorem AgV.hi {w : World} {base a q bm n : Nat} {lv : Value} {L : List It} (h : AgV w base a q bm lv L n) : ∀ k, FpA a q bm lv k → k < w.heap.size := by
  obtain ⟨l, D, h1, h2⟩ := h.qv
  rintro k (rfl | e)
  · exact ltF h.c0
  · exact h1.m.hi k e
/-- The queue is another one. -/
theorem AgV.queue {w w' : World} {base a q bm n : Nat} {lv lv' : Value} {L L' l' : List It} {D' : DataW Unit} (h : AgV w base a q bm lv L n) (hq : QuV w' base q bm lv' l' D') (ho : Off (FpQ q bm lv) w w') (hf : ∀ k, FpQ q bm lv' k → FpQ q bm lv k ∨ w.heap.size ≤ k) (hp : l'.Perm L') (hs : SrI L') (hn : ∀ x ∈ L', 0 ≤ x.no ∧ x.no < n) : AgV w' base a q bm lv' L' n ∧ Off (FpA a q bm lv) w w' ∧ (∀ k, FpA a q bm lv' k → FpA a q bm lv k ∨ w.heap.size ≤ k) :=
  ⟨⟨ho.cell h.c0 h.na, ho.cell h.c1 h.na, (ho.frozen (ltF h.c0) h.na).trans h.f1, ⟨l', D', hq, hp⟩, fun c => (hf a c).elim h.na (fun e => by have := ltF h.c0; omega), h.ba, hs, hn⟩, ho.mono (fun k c => .inr c), fun k c => by
    rcases c with c | c
    · exact .inl (.inl c)
    · exact (hf k c).imp .inr id⟩
/-- The first one in order is the heap's first. -/
theorem first_min {l L : List It} (hp : l.Perm L) (hh : Hp l l.length) (hs : SrI L) {x : It} {M : List It} (e : L = x :: M) : itm l 0 = x := by
  subst e
  have hl : 0 < l.length := by rw [hp.length_eq]; simp
  have h0 : itm l 0 ∈ x :: M := hp.mem_iff.1 (by rw [itm_get hl]; exact List.getElem_mem hl)
  have hx : x ∈ l := hp.mem_iff.2 (by simp)
  obtain ⟨j, hj, hjx⟩ := List.getElem_of_mem hx
  have h1 := hh.first j j (Nat.le_refl _) hj
  rw [itm_get hj, hjx] at h1
  rcases List.mem_cons.1 h0 with e | h0
  · exact e
  · exact absurd ((List.pairwise_cons.1 hs).1 _ h0) h1
theorem perm_no {m L : List It} {x : It} {l : List It} (h : (m ++ [x]).Perm l) (hl : l.Perm L) (hs : SrI L) (hd : ∀ y ∈ L, ∀ z ∈ L, y.no = z.no → y = z) : m.Perm (noI x.no L) := by
  have h1 : (m ++ [x]).Perm L := h.trans hl
  have hnd : L.Nodup := List.Pairwise.imp (fun {a b} hab e => by subst e; exact bfI_irr _ hab) hs
  have hxL : x ∈ L := h1.mem_iff.1 (by simp)
  have h2 : (noI x.no (m ++ [x])).Perm (noI x.no L) := h1.filter _
  have hnd2 : (m ++ [x]).Nodup := h1.nodup_iff.2 hnd
  have e : noI x.no (m ++ [x]) = m := by
    unfold noI
    rw [List.filter_append]
    have hx0 : [x].filter (fun y => decide (y.no ≠ x.no)) = [] := by simp
    rw [hx0, List.append_nil]
    refine List.filter_eq_self.2 (fun y hy => ?_)
    rw [decide_eq_true_iff]
    intro c
    have hyL : y ∈ L := h1.mem_iff.1 (by simp [hy])
    have := hd y hyL x hxL c
    subst this
    rw [List.nodup_append] at hnd2
    exact hnd2.2.2 y hy y (by simp) rfl
  rw [e] at h2
  exact h2

set_option maxRecDepth 100000 in
set_option maxHeartbeats 1000000 in
theorem anew_any (w : World) : Calls Try.prog 9 #[] w fun e w' => ∃ a q bm, e = .returned (.pointer (some ⟨a, 0, none⟩)) ∧ AgV w' w.heap.size a q bm (.slice none 0 0) [] 0 ∧ Below w.heap.size w w' := by
  have HN := Lib.hid (newq_any w)
  go_enter Try.func9, Try.ntmps9
  go_wp2_with fail
  refine HN.out.mono ?_
  rintro e w1 ⟨q, bm, rfl, hq, hb⟩
  have HQ := Lib.hid hq
  have HB := Lib.hid hb
  clear hq hb HN
  go_wp2_with fail
  go_ret
  have hb2 := newF w1 (.cells #[.pointer (some ⟨q, 0, none⟩), .int .i64 0] 64)
  refine ⟨w1.heap.size, q, bm, rfl, ⟨?_, ?_, ?_, ⟨[], .map [], HQ.out.keep hb2, List.Perm.refl _⟩, fun c => ?_, HB.out.size, List.Pairwise.nil, fun x hx => by cases hx⟩, onF HB.out hb2⟩
  · rw [World.cell?_alloc_at _ _ _ _ rfl]; rfl
  · rw [World.cell?_alloc_at _ _ _ _ rfl]; rfl
  · exact World.frozen?_alloc_at _ _ _ _ rfl
  · have := HQ.out.m.hi _ c; omega
set_option maxRecDepth 100000 in
theorem maybe_any (w : World) (d : Int) : Calls Try.prog 38 #[.int .i64 d] w fun e w' => e = .returned (.bool (decide (0 ≤ d ∧ d ≤ 73048))) ∧ w' = w := by
  by_cases h0 : 0 ≤ d
  · by_cases h1 : d ≤ 73048
    · rw [decide_eq_true ⟨h0, h1⟩]
      go_enter Try.func38, Try.ntmps38
      go_wp2_with fail
      go_ret
      exact ⟨rfl, rfl⟩
    · rw [decide_eq_false (fun c => h1 c.2)]
      go_enter Try.func38, Try.ntmps38
      go_wp2_with fail
      go_ret
      exact ⟨rfl, rfl⟩
  · rw [decide_eq_false (fun c => h0 c.1)]
    go_enter Try.func38, Try.ntmps38
    go_wp2_with fail
    go_ret
    exact ⟨rfl, rfl⟩
set_option maxRecDepth 100000 in
theorem alen_any (w : World) {base a q bm n : Nat} {lv : Value} {L : List It} (h : AgV w base a q bm lv L n) : Calls Try.prog 16 #[.pointer (some ⟨a, 0, none⟩)] w fun e w' => e = .returned (.int .i64 (L.length : Nat)) ∧ w' = w := by
  obtain ⟨l, D, hq, hp⟩ := h.qv
  have c0 := h.c0
  have HL := Lib.hid (qlen_any w hq.m)
  rw [hp.length_eq] at HL
  clear hq hp h
  go_enter Try.func16, Try.ntmps16
  go_wp2_with fail
  refine HL.out.mono ?_
  rintro e w1 ⟨rfl, rfl⟩
  clear HL
  go_wp2_with fail
  go_ret
  exact ⟨rfl, rfl⟩
set_option maxRecDepth 100000 in
set_option maxHeartbeats 2000000 in
theorem aput_ok (w : World) {base a q bm n : Nat} {lv : Value} {L : List It} (h : AgV w base a q bm lv L n) (hn : n < 1000) (hl : L.length < 1000) (d t : Int) (hd : 0 ≤ d ∧ d ≤ 73048) :
    Calls Try.prog 25 #[.pointer (some ⟨a, 0, none⟩), .int .i64 d, .int .i64 t] w fun e w' => e = .returned (.tuple #[.int .i64 (n : Nat), .int .i64 0]) ∧ ∃ lv', AgV w' base a q bm lv' (inI ⟨d, n, t⟩ L) (n + 1) ∧ Off (FpA a q bm lv) w w' ∧ (∀ k, FpA a q bm lv' k → FpA a q bm lv k ∨ w.heap.size ≤ k) := by
  have HMb := Lib.hid (fun (w' : World) => maybe_any w' d)
  rw [decide_eq_true hd] at HMb
  obtain ⟨l, D, hq, hp⟩ := h.qv
  have c0 := h.c0
  have c1 := h.c1
  have hx : Maps.has D (kI (n : Nat)) = false := by
    cases hc : Maps.has D (kI (n : Nat)) with
    | false => rfl
    | true =>
      obtain ⟨x, hx, e⟩ := (hq.p.perm_no _).1 hc
      have := h.nb x (hp.mem_iff.1 hx)
      omega
  have HAd := Lib.hid (qadd_any w hq ⟨d, (n : Nat), t⟩ hx ⟨by show _ ≤ (n : Int); omega, by show (n : Int) ≤ _; omega⟩ (by rw [hp.length_eq]; exact hl))
  have HH := Lib.hid h
  have HP := Lib.hid hp
  have e0 : wrap64 ((n : Int) + 1) = ((n + 1 : Nat) : Int) := by rw [IntWalk.wrap64_in _ ⟨by omega, by omega⟩]; omega
  clear hq hp h hx hd
  go_enter Try.func25, Try.ntmps25
  go_wp2_with fail
  refine (HMb.out _).mono ?_
  rintro e w1 ⟨rfl, rfl⟩
  clear HMb
  go_wp2_with fail
  refine HAd.out.mono ?_
  rintro e w2 ⟨rfl, lv', l', D', hq, hpe, ho, hf⟩
  have hno : ∀ y ∈ L, y.no ≠ (n : Nat) := fun y hy e => by have := HH.out.nb y hy; omega
  have d1 := ho.cell HH.out.c1 HH.out.na
  have g1 := (ho.frozen (i := 1) (ltF HH.out.c0) HH.out.na).trans HH.out.f1
  have na' : ¬ FpQ q bm lv' a := fun c => (hf a c).elim HH.out.na (fun e => by have := ltF HH.out.c0; omega)
  have HE := Lib.hid (show AgV (w2.setCell ⟨a, 1, none⟩ (.int .i64 ((n + 1 : Nat) : Int))) base a q bm lv' (inI ⟨d, (n : Nat), t⟩ L) (n + 1) ∧ Off (FpA a q bm lv) w1 (w2.setCell ⟨a, 1, none⟩ (.int .i64 ((n + 1 : Nat) : Int))) ∧ (∀ k, FpA a q bm lv' k → FpA a q bm lv k ∨ w1.heap.size ≤ k) from
    ⟨⟨(cell_other (fun e => by cases e)).trans (ho.cell HH.out.c0 HH.out.na), cell_same d1, by rw [World.frozen?_setCell]; exact g1, ⟨l', D', hq.off (Off.set w2 a 1 _) (fun k hk e => na' (e ▸ hk)), hpe.trans (((HP.out.append_right _).trans List.perm_append_comm).trans (inI_perm _ _).symm)⟩, na', HH.out.ba, inI_srt HH.out.sr hno, fun x hx => by
      rcases (inI_mem _ _ _).1 hx with rfl | hx
      · exact ⟨by show (0 : Int) ≤ (n : Int); omega, by show (n : Int) < _; omega⟩
      · have := HH.out.nb x hx; omega⟩, (ho.mono (F' := FpA a q bm lv) (fun k c => .inr c)).trans (Off.set w2 a 1 _) (fun k e => .inl (.inl e)), fun k c => by
      rcases c with c | c
      · exact .inl (.inl c)
      · exact (hf k c).imp .inr id⟩)
  clear hq hpe ho hf hno na' HAd
  go_wp2_with fail
  go_ret2
  exact ⟨rfl, lv', HE.out⟩
set_option maxRecDepth 100000 in
theorem aput_no (w : World) (a : Nat) (d t : Int) (hd : ¬ (0 ≤ d ∧ d ≤ 73048)) :
    Calls Try.prog 25 #[.pointer (some ⟨a, 0, none⟩), .int .i64 d, .int .i64 t] w fun e w' => e = .returned (.tuple #[.int .i64 0, .int .i64 18]) ∧ w' = w := by
  have HMb := Lib.hid (fun (w' : World) => maybe_any w' d)
  rw [decide_eq_false hd] at HMb
  clear hd
  go_enter Try.func25, Try.ntmps25
  go_wp2_with fail
  refine (HMb.out _).mono ?_
  rintro e w1 ⟨rfl, rfl⟩
  clear HMb
  go_wp2_with fail
  go_ret2
  exact ⟨rfl, rfl⟩
def zIt : Value := .agg #[.int .i64 0, .int .i64 0, .int .i64 0]
def itV (x : It) : Value := .agg #[.int .i64 x.d, .int .i64 x.no, .int .i64 x.tag]
set_option maxRecDepth 100000 in
set_option maxHeartbeats 2000000 in
theorem anext_no (w : World) {base a q bm n : Nat} {lv : Value} (h : AgV w base a q bm lv [] n) : Calls Try.prog 19 #[.pointer (some ⟨a, 0, none⟩)] w fun e w' => e = .returned (.tuple #[zIt, .bool false]) ∧ Below w.heap.size w w' := by
  unfold zIt
  have hb := newF w (.cells #[.int .i64 0, .int .i64 0, .int .i64 0] 31)
  have HL := Lib.hid (alen_any _ (h.keep hb))
  have HB := Lib.hid hb
  clear h hb
  go_enter Try.func19, Try.ntmps19
  go_wp2_with fail
  refine HL.out.mono ?_
  rintro e w1 ⟨rfl, rfl⟩
  clear HL
  go_wp2_with fail
  exact bodyPost_ret (v := .tuple #[.agg #[.int .i64 0, .int .i64 0, .int .i64 0], .bool false]) (by simp [results, Try.results19, go_sem]) rfl ⟨rfl, newF _ _⟩
set_option maxRecDepth 100000 in
set_option maxHeartbeats 2000000 in
theorem anext_yes (w : World) {base a q bm n : Nat} {lv : Value} {x : It} {M : List It} (h : AgV w base a q bm lv (x :: M) n) : Calls Try.prog 19 #[.pointer (some ⟨a, 0, none⟩)] w fun e w' => e = .returned (.tuple #[itV x, .bool true]) ∧ Below w.heap.size w w' := by
  unfold itV
  have hb := newF w (.cells #[.int .i64 0, .int .i64 0, .int .i64 0] 31)
  have hk := h.keep hb
  have HL := Lib.hid (alen_any _ hk)
  have c0 := hk.c0
  obtain ⟨l, D, hq, hp⟩ := hk.qv
  have hm := first_min hp hq.h h.sr rfl
  have HF := Lib.hid (qfirst_any _ hq.m (by rw [hp.length_eq]; simp))
  rw [hm] at HF
  have HB := Lib.hid hb
  have hr0 : ∀ k, k < 3 → (w.alloc (.cells #[.int .i64 0, .int .i64 0, .int .i64 0] 31)).cell? ⟨w.heap.size, k, none⟩ = some (.int .i64 0) := fun k hk => by
    rw [World.cell?_alloc_at _ _ _ _ rfl]
    rcases (show k = 0 ∨ k = 1 ∨ k = 2 by omega) with rfl | rfl | rfl <;> rfl
  have hf0 : ∀ k, (w.alloc (.cells #[.int .i64 0, .int .i64 0, .int .i64 0] 31)).frozen? ⟨w.heap.size, k, none⟩ = false := fun k => World.frozen?_alloc_at _ _ _ _ rfl
  have HZ := Lib.hid (And.intro hr0 hf0)
  have e1 : ¬ (((x :: M).length : Nat) : Int) = 0 := by simp; omega
  have HX := Lib.hid e1
  generalize hll : (x :: M).length = ll at *
  clear h hb hk hq hp hm hr0 hf0 hll
  go_enter Try.func19, Try.ntmps19
  go_wp2_with fail
  refine HL.out.mono ?_
  rintro e w1 ⟨rfl, rfl⟩
  clear HL
  go_wp2_with fail
  refine HF.out.mono ?_
  rintro e w2 ⟨rfl, hb2⟩
  have z0 := keepF hb2 (HZ.out.1 0 (by decide))
  have z1 := keepF hb2 (HZ.out.1 1 (by decide))
  have z2 := keepF hb2 (HZ.out.1 2 (by decide))
  have y : ∀ k, w2.frozen? ⟨w.heap.size, k, none⟩ = false := fun k => (hb2.frozen (p := ⟨w.heap.size, k, none⟩) (by simp)).trans (HZ.out.2 k)
  have y0 := y 0
  have y1 := y 1
  have y2 := y 2
  have HB2 := Lib.hid (onF HB.out hb2)
  clear hb2 y HF
  go_wp2_with fail
  exact bodyPost_ret (v := .tuple #[.agg #[.int .i64 x.d, .int .i64 x.no, .int .i64 x.tag], .bool true]) (by simp [results, Try.results19, go_sem, z0, z1, z2]) rfl ⟨rfl, Below.setCell (Below.setCell (Below.setCell HB2.out (Nat.le_refl _) _) (Nat.le_refl _) _) (Nat.le_refl _) _⟩

end Go.Proofs.Ytkfcaafjnolhgaa
