/-
  container/heap's Push, Remove, Fix; the queue's add, remove, move, has, first: what they leave.
-/
import Derived.Test.YtkfcaafjnolhgaaAgE
namespace Go.Proofs.Ytkfcaafjnolhgaa
open Go.RowKit Go.Lib Go.Maps Go.Sort
set_option linter.unusedVariables false
set_option linter.unusedSimpArgs false

/-- A queue that is one: a heap, and all stand where it is told. -/
structure QuV (w : World) (base q bm : Nat) (lv : Value) (l : List It) (D : DataW Unit) : Prop where
  m : QuM w base q bm lv l D
  p : PlD D l
  h : Hp l l.length
  k : ∀ x ∈ l, I64 x.no
theorem QuV.off {w w' : World} {base q bm : Nat} {lv : Value} {l : List It} {D : DataW Unit} {F : Nat → Prop} (h : QuV w base q bm lv l D) (ho : Off F w w') (hF : ∀ k, FpQ q bm lv k → ¬ F k) : QuV w' base q bm lv l D := ⟨h.m.off ho hF, h.p, h.h, h.k⟩
theorem QuV.keep {w w' : World} {base q bm : Nat} {lv : Value} {l : List It} {D : DataW Unit} (h : QuV w base q bm lv l D) (hb : Below w.heap.size w w') : QuV w' base q bm lv l D := ⟨h.m.keep hb, h.p, h.h, h.k⟩

set_option maxRecDepth 100000 in
set_option maxHeartbeats 2000000 in
theorem hpush_any (w : World) {base q bm : Nat} {lv : Value} {l : List It} {D : DataW Unit} (h : QuM w base q bm lv l D) (x : It) (hp : PlD D (l ++ [x])) (hh : Hp l l.length) (hk : ∀ y ∈ l ++ [x], I64 y.no) (hlen : l.length < 1000) :
    Calls Try.prog 50 #[.iface 61 (.pointer (some ⟨q, 0, none⟩)), .iface 31 (.agg #[.int .i64 x.d, .int .i64 x.no, .int .i64 x.tag])] w fun e w' => e = .returned (.tuple #[]) ∧ ∃ lv' l' D', QuV w' base q bm lv' l' D' ∧ l'.Perm (l ++ [x]) ∧ Off (FpQ q bm lv) w w' ∧ (∀ k, FpQ q bm lv' k → FpQ q bm lv k ∨ w.heap.size ≤ k) := by
  have HPu := Lib.hid (qpush_any w h x (by omega))
  have HA := Lib.hid (And.intro hp (And.intro hh (And.intro hk hlen)))
  clear h hp hh hk hlen
  go_enter Try.func50, Try.ntmps50
  go_wp2_with fail
  refine HPu.out.mono ?_
  rintro e w1 ⟨rfl, lv', hm, ho, hf⟩
  have HM := Lib.hid hm
  have HO := Lib.hid (And.intro ho hf)
  have HLe := Lib.hid (qlen_any w1 hm)
  have hl : (l ++ [x]).length = l.length + 1 := by simp
  have e0 : wrap64 (l.length : Int) = (l.length : Int) := IntWalk.wrap64_in _ ⟨by have := HA.out.2.2.2; omega, by have := HA.out.2.2.2; omega⟩
  have HUp := Lib.hid (up_any w1 (n := (l ++ [x]).length) ⟨hm, HA.out.1, List.Perm.refl _, fun _ _ => rfl⟩ HA.out.2.2.1 (Nat.le_refl _) (by have := HA.out.2.2.2; omega) (j1 := l.length) (by omega) (by rw [hl]; exact HA.out.2.1.push x))
  clear hm ho hf HPu
  go_wp2_with fail
  refine HLe.out.mono ?_
  rintro e w2 ⟨rfl, rfl⟩
  clear HLe
  unfold ifq at HUp
  go_wp2_with fail
  refine HUp.out.mono ?_
  rintro e w3 ⟨rfl, ⟨l', D', hq, hh⟩, ho⟩
  have e1 : l'.length = (l ++ [x]).length := hq.len
  have h2 : Hp l' l'.length := by rw [e1]; exact hh
  have h3 : ∀ y ∈ l', I64 y.no := fun y hy => HA.out.2.2.1 y (hq.pe.mem_iff.1 hy)
  have h1 := hq.m
  have h4 := hq.p
  have hv : QuV w3 base q bm lv' l' D' := QuV.mk h1 h4 h2 h3
  have hoo : Off (FpQ q bm lv) w w3 := HO.out.1.trans ho HO.out.2
  have HV := Lib.hid (And.intro hv (And.intro hq.pe hoo))
  clear hq hh ho
  go_wp2_with fail
  go_end0
  exact ⟨rfl, lv', l', D', HV.out.1, HV.out.2.1, HV.out.2.2, HO.out.2⟩

/-- All but the one at a place. -/
theorem perm_out {l m : List It} {x : It} (h : (m ++ [x]).Perm l) : ∀ y, y ∈ l ↔ y ∈ m ∨ y = x := fun y => by
  rw [← h.mem_iff, List.mem_append, List.mem_singleton]
set_option maxRecDepth 100000 in
set_option maxHeartbeats 4000000 in
theorem hremove_any (w : World) {base q bm : Nat} {lv : Value} {l : List It} {D : DataW Unit} (h : QuV w base q bm lv l D) {i : Nat} (hi : i < l.length) (hlen : l.length ≤ 1000) :
    Calls Try.prog 41 #[.iface 61 (.pointer (some ⟨q, 0, none⟩)), .int .i64 (i : Nat)] w fun e w' => e = .returned (.iface 31 (.agg #[.int .i64 (itm l i).d, .int .i64 (itm l i).no, .int .i64 (itm l i).tag])) ∧ ∃ lv' m D', QuM w' base q bm lv' m D' ∧ PlD D' (m ++ [itm l i]) ∧ Hp m m.length ∧ (m ++ [itm l i]).Perm l ∧ Off (FpQ q bm lv) w w' ∧ (∀ k, FpQ q bm lv' k → FpQ q bm lv k) := by
  obtain ⟨n, hn⟩ : ∃ n, l.length = n + 1 := ⟨l.length - 1, by omega⟩
  have HA := Lib.hid (And.intro hi (And.intro hlen hn))
  have HV := Lib.hid h
  have HLe := Lib.hid (qlen_any w h.m)
  rw [hn] at HLe
  have e0 : wrap64 (((n + 1 : Nat) : Int) - 1) = (n : Int) := by rw [IntWalk.wrap64_in _ ⟨by omega, by omega⟩]; omega
  have e0' : wrap64 (n : Int) = (n : Int) := IntWalk.wrap64_in _ ⟨by omega, by omega⟩
  -- the end: a row whose last one is the one to go
  have HPop : Hid (∀ (wx : World) (l1 : List It) (D1 : DataW Unit), QuM wx base q bm lv l1 D1 → PlD D1 l1 → Hp l1 n → l1.Perm l → itm l1 n = itm l i → Off (FpQ q bm lv) w wx → Calls Try.prog 92 #[.pointer (some ⟨q, 0, none⟩)] wx fun e w' => e = .returned (.iface 31 (.agg #[.int .i64 (itm l i).d, .int .i64 (itm l i).no, .int .i64 (itm l i).tag])) ∧ ∃ lv' m D', QuM w' base q bm lv' m D' ∧ PlD D' (m ++ [itm l i]) ∧ Hp m m.length ∧ (m ++ [itm l i]).Perm l ∧ Off (FpQ q bm lv) w w' ∧ (∀ k, FpQ q bm lv' k → FpQ q bm lv k)) := Lib.hid (fun wx l1 D1 hm hp hh hpe hit ho => by
    have hl1 : l1.length = n + 1 := by rw [hpe.length_eq, hn]
    have hsp : l1 = l1.take n ++ [itm l i] := by
      rw [← hit, itm_get (by omega), List.take_append_getElem (by omega)]
      rw [← hl1, List.take_length]
    have hml : (l1.take n).length = n := by rw [List.length_take]; omega
    rw [hsp] at hm
    refine (qpop_any wx hm).mono ?_
    rintro e w' ⟨rfl, lv', h1, h2, h3⟩
    exact ⟨rfl, lv', l1.take n, D1, h1, by rw [← hsp]; exact hp, by rw [hml]; exact hh.take, by rw [← hsp]; exact hpe, ho.both h2, h3⟩)
  by_cases hin : i = n
  · subst hin
    have HF := Lib.hid (HPop.out w l D h.m h.p (h.h.less (by omega)) (List.Perm.refl _) rfl (Off.refl _ _))
    clear h hi hlen hn HPop
    go_enter Try.func41, Try.ntmps41
    go_wp2_with fail
    refine HLe.out.mono ?_
    rintro e w1 ⟨rfl, rfl⟩
    clear HLe
    go_wp2_with fail
    refine HF.out.mono ?_
    rintro e w2 ⟨rfl, hx⟩
    have HX := Lib.hid hx
    clear hx
    go_wp2_with fail
    go_ret
    exact ⟨rfl, HX.out⟩
  · have e1 : ¬ (n : Int) = (i : Int) := by omega
    have hil : i < n := by omega
    have HSw := Lib.hid (qswap_any w h.m (i := i) (j := n) hi (by omega) hin h.k (by omega) (by rw [h.p.sz]; omega))
    have hsl := swI_len l i n
    have hki : ∀ x ∈ swI l i n, I64 x.no := fun x hx => h.k x ((swI_perm hi (by omega)).mem_iff.1 hx)
    have HS : Hid (∀ wx, QuM wx base q bm lv (swI l i n) ((D.put (kI (itm l n).no) (intD (i : Nat))).put (kI (itm l i).no) (intD (n : Nat))) → QuU wx base q bm lv (swI l i n) n (swI l i n) ((D.put (kI (itm l n).no) (intD (i : Nat))).put (kI (itm l i).no) (intD (n : Nat)))) := Lib.hid (fun wx hm => ⟨hm, h.p.swap hi (by omega), List.Perm.refl _, fun _ _ => rfl⟩)
    have hhe : HpE (swI l i n) n i := (h.h.less (m := n) (by omega)).other (fun j hj hne => by rw [itm_sw hi (by omega), if_neg (by omega), if_neg hne])
    have hlast : itm (swI l i n) n = itm l i := by rw [itm_sw hi (by omega), if_pos rfl]
    have HDn : Hid (∀ wx, QuU wx base q bm lv (swI l i n) n (swI l i n) ((D.put (kI (itm l n).no) (intD (i : Nat))).put (kI (itm l i).no) (intD (n : Nat))) → Calls Try.prog 51 #[.iface 61 (.pointer (some ⟨q, 0, none⟩)), .int .i64 (i : Nat), .int .i64 (n : Nat)] wx fun e w' => (∃ b l' D', e = .returned (.bool b) ∧ QuU w' base q bm lv (swI l i n) n l' D' ∧ (b = true → Hp l' n) ∧ (b = false → HpU l' n i)) ∧ Off (FpQ q bm lv) wx w') := Lib.hid (fun wx hq => down_any wx hq hki (by omega) (by omega) hil hhe)
    have HUp : Hid (∀ wx l' D', QuU wx base q bm lv (swI l i n) n l' D' → HpU l' n i → Calls Try.prog 52 #[.iface 61 (.pointer (some ⟨q, 0, none⟩)), .int .i64 (i : Nat)] wx fun e w' => e = .returned (.tuple #[]) ∧ (∃ l2 D2, QuU w' base q bm lv (swI l i n) n l2 D2 ∧ Hp l2 n) ∧ Off (FpQ q bm lv) wx w') := Lib.hid (fun wx l' D' hq hu => by
      have := up_any wx hq hki (by omega) (by omega) hil hu
      unfold ifq at this
      exact this)
    have HFin : Hid (∀ wx l' D', QuU wx base q bm lv (swI l i n) n l' D' → Hp l' n → Off (FpQ q bm lv) w wx → Calls Try.prog 92 #[.pointer (some ⟨q, 0, none⟩)] wx fun e w' => e = .returned (.iface 31 (.agg #[.int .i64 (itm l i).d, .int .i64 (itm l i).no, .int .i64 (itm l i).tag])) ∧ ∃ lv' m D', QuM w' base q bm lv' m D' ∧ PlD D' (m ++ [itm l i]) ∧ Hp m m.length ∧ (m ++ [itm l i]).Perm l ∧ Off (FpQ q bm lv) w w' ∧ (∀ k, FpQ q bm lv' k → FpQ q bm lv k)) := Lib.hid (fun wx l' D' hq hh ho => HPop.out wx l' D' hq.m hq.p hh (hq.pe.trans (swI_perm hi (by omega))) ((hq.tl n (Nat.le_refl _)).trans hlast) ho)
    clear h hi hlen hn hin HPop hil hsl hki hhe hlast
    generalize hX : (D.put (kI (itm l n).no) (intD (i : Nat))).put (kI (itm l i).no) (intD (n : Nat)) = DX at *
    clear hX
    generalize swI l i n = ls at *
    generalize itm l i = it at *
    go_enter Try.func41, Try.ntmps41
    go_wp2_with fail
    refine HLe.out.mono ?_
    rintro e w1 ⟨rfl, rfl⟩
    clear HLe
    go_wp2_with fail
    refine HSw.out.mono ?_
    rintro e w2 ⟨rfl, hm, ho⟩
    have HQ2 := Lib.hid (HS.out w2 hm)
    have HO2 := Lib.hid ho
    have HD2 := Lib.hid (HDn.out w2 (HS.out w2 hm))
    clear hm ho HSw HS HDn
    go_wp2_with fail
    refine HD2.out.mono ?_
    rintro e w3 ⟨⟨bb, l', D', rfl, hq, hb1, hb2⟩, ho⟩
    have HQ3 := Lib.hid hq
    have HO3 := Lib.hid (HO2.out.both ho)
    clear hq ho HD2
    cases bb with
    | true =>
      have HF := Lib.hid (HFin.out w3 l' D' HQ3.out (hb1 rfl) HO3.out)
      clear hb1 hb2
      go_wp2_with fail
      refine HF.out.mono ?_
      rintro e w4 ⟨rfl, hx⟩
      have HX := Lib.hid hx
      clear hx
      go_wp2_with fail
      go_ret
      exact ⟨rfl, HX.out⟩
    | false =>
      have HU := Lib.hid (HUp.out w3 l' D' HQ3.out (hb2 rfl))
      clear hb1 hb2
      go_wp2_with fail
      refine HU.out.mono ?_
      rintro e w4 ⟨rfl, ⟨l'', D'', hq, hh⟩, ho⟩
      have HF := Lib.hid (HFin.out w4 l'' D'' hq hh (HO3.out.both ho))
      clear hq hh ho HU
      go_wp2_with fail
      refine HF.out.mono ?_
      rintro e w5 ⟨rfl, hx⟩
      have HX := Lib.hid hx
      clear hx
      go_wp2_with fail
      go_ret
      exact ⟨rfl, HX.out⟩

end Go.Proofs.Ytkfcaafjnolhgaa
