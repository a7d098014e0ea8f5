/-
  Package facts: Fixing, Choice; chattellaw07: Tell, Made, awake: what they answer.
-/
import Derived.Test.YtgenkigeglleiaaFcB
namespace Go.Proofs.Ytgenkigeglleiaa
open Go.RowKit Go.Lib Go.Maps
set_option linter.unusedVariables false
set_option linter.unusedSimpArgs false

set_option maxRecDepth 100000 in
theorem ornone_any (a : Addr) (w : World) : Calls Try.prog 30 #[.pointer (some a)] w fun e w' => e = .returned (.pointer (some a)) ∧ w = w' := by
  go_enter Try.func30, Try.ntmps30
  go_wp2_with fail
  go_ret
  exact ⟨rfl, rfl⟩
set_option maxHeartbeats 1000000 in
set_option maxRecDepth 100000 in
theorem findr_any (w : World) {bf n : Nat} {Df : DataW Unit} (h : w.ownsMap Try.prog 85 ratElem bf n Df) (k d : Int) (hk : I64 k) (hd : I64 d) :
    Calls Try.prog 31 #[.map (some bf), .int .i64 k, .int .i64 d] w fun e w' => ∃ x y, e = .returned (.tuple #[.agg #[.int .i64 x, .int .i64 y], .bool (Maps.has Df (plk k d))]) ∧ Df.atKey (plk k d) (ratD 0 0) = ratD x y ∧ Below w.heap.size w w' := by
  have hown := h.alloc (.cells #[.int .i64 0, .int .i64 0] 29)
  have HKey := Lib.hid (plc_key hk hd)
  clear h hk hd
  go_enter Try.func31, Try.ntmps31
  go_wp2_with (at_lookup; refine wpList_lookup_own_ok _ rfl _ _ 72 rfl 85 29 plc_law Try.underlying72 ratElem (rat_zero _) (ratD 0 0) [] (ratElem_mk 0 0) bf n Df rfl hown (plv k d) _ rfl HKey.out ?_; intro v ps hv; obtain ⟨x, y, rfl, hx⟩ := ratElem_inv hv; have HX := Lib.hid hx; clear hv hx hown)
  exact bodyPost_ret (v := .tuple #[.agg #[.int .i64 x, .int .i64 y], .bool (Maps.has Df (plk k d))]) (by simp [results, Try.results31, go_sem]) rfl ⟨x, y, rfl, HX.out, onF (newF _ _) (newF _ _)⟩
set_option maxHeartbeats 1000000 in
set_option maxRecDepth 100000 in
theorem findi_any (w : World) {bc n : Nat} {Dc : DataW Unit} (h : w.ownsMap Try.prog 85 intElem bc n Dc) (k d : Int) (hk : I64 k) (hd : I64 d) :
    Calls Try.prog 32 #[.map (some bc), .int .i64 k, .int .i64 d] w fun e w' => ∃ x, e = .returned (.tuple #[.int .i64 x, .bool (Maps.has Dc (plk k d))]) ∧ Dc.atKey (plk k d) (intD 0) = intD x ∧ Below w.heap.size w w' := by
  have hown := h
  have HKey := Lib.hid (plc_key hk hd)
  clear h hk hd
  go_enter Try.func32, Try.ntmps32
  go_wp2_with (at_lookup; refine wpList_lookup_own_ok_int _ rfl _ _ 74 rfl 85 3 .i64 plc_law Try.underlying74 Try.underlying3 (int_zero _) bc n Dc rfl hown (plv k d) _ rfl HKey.out ?_; intro c hat hwc; have HX := Lib.hid hat; clear hat hown)
  exact bodyPost_ret (v := .tuple #[.int .i64 c, .bool (Maps.has Dc (plk k d))]) (by simp [results, Try.results32, go_sem]) rfl ⟨c, rfl, HX.out, Below.refl _ _⟩

set_option maxHeartbeats 1000000 in
set_option maxRecDepth 100000 in
theorem fixing_any (w : World) {B bf bc n : Nat} {Df Dc : DataW Unit} (h : FacM w B bf bc n Df Dc) (k d : Int) (hk : I64 k) (hd : I64 d) :
    Calls Try.prog 17 #[.pointer (some ⟨B, 0, none⟩), .int .i64 k, .int .i64 d] w fun e w' => ∃ x y, e = .returned (.tuple #[.agg #[.int .i64 x, .int .i64 y], .bool (Maps.has Df (plk k d))]) ∧ Df.atKey (plk k d) (ratD 0 0) = ratD x y ∧ Below w.heap.size w w' := by
  have hb0 := newF w (.cells #[.int .i64 0, .int .i64 0] 29)
  have HM := Lib.hid (h.keep hb0)
  have c0 := (h.keep hb0).c0
  have HO := Lib.hid (fun a w' => ornone_any a w')
  have HFd := Lib.hid (findr_any _ (h.keep hb0).hf k d hk hd)
  have HB := Lib.hid hb0
  have v0 : (w.alloc (.cells #[.int .i64 0, .int .i64 0] 29)).cell? ⟨w.heap.size, 0, none⟩ = some (.int .i64 0) := by rw [World.cell?_alloc_at _ _ _ _ rfl]; rfl
  have v1 : (w.alloc (.cells #[.int .i64 0, .int .i64 0] 29)).cell? ⟨w.heap.size, 1, none⟩ = some (.int .i64 0) := by rw [World.cell?_alloc_at _ _ _ _ rfl]; rfl
  have vz : ∀ i, (w.alloc (.cells #[.int .i64 0, .int .i64 0] 29)).frozen? ⟨w.heap.size, i, none⟩ = false := fun i => World.frozen?_alloc_at _ _ _ _ rfl
  have HV := Lib.hid (And.intro v0 (And.intro v1 vz))
  have hsz : w.heap.size < (w.alloc (.cells #[.int .i64 0, .int .i64 0] 29)).heap.size := by simp
  have HSz := Lib.hid hsz
  clear v0 v1 vz hsz
  clear h hb0 hk hd
  go_enter Try.func17, Try.ntmps17
  go_wp2_with fail
  refine (HO.out _ _).mono ?_
  rintro e w1 ⟨rfl, rfl⟩
  clear HO
  generalize w.alloc (.cells #[.int .i64 0, .int .i64 0] 29) = w1 at *
  go_wp2_with fail
  refine (HFd.out).mono ?_
  rintro e w2 ⟨x, y, rfl, hx, hb2⟩
  have HB2 := Lib.hid (onF HB.out hb2)
  have HX := Lib.hid hx
  have v0 : w2.cell? ⟨w.heap.size, 0, none⟩ = some (.int .i64 0) := (World.cell?_of_block (hb2.block _ HSz.out)).trans HV.out.1
  have v1 : w2.cell? ⟨w.heap.size, 1, none⟩ = some (.int .i64 0) := (World.cell?_of_block (hb2.block _ HSz.out)).trans HV.out.2.1
  have z0 : w2.frozen? ⟨w.heap.size, 0, none⟩ = false := (World.frozen?_of_block (hb2.block _ HSz.out)).trans (HV.out.2.2 0)
  have z1 : w2.frozen? ⟨w.heap.size, 1, none⟩ = false := (World.frozen?_of_block (hb2.block _ HSz.out)).trans (HV.out.2.2 1)
  clear hb2 hx HFd c0
  go_wp2_with fail
  exact bodyPost_ret (v := .tuple #[.agg #[.int .i64 x, .int .i64 y], .bool (Maps.has Df (plk k d))]) (by simp [results, Try.results17, go_sem, v0, v1]) rfl ⟨x, y, rfl, HX.out, Below.setCell (Below.setCell HB2.out (Nat.le_refl _) _) (Nat.le_refl _) _⟩
set_option maxHeartbeats 1000000 in
set_option maxRecDepth 100000 in
theorem choice_any (w : World) {B bf bc n : Nat} {Df Dc : DataW Unit} (h : FacM w B bf bc n Df Dc) (k d : Int) (hk : I64 k) (hd : I64 d) :
    Calls Try.prog 18 #[.pointer (some ⟨B, 0, none⟩), .int .i64 k, .int .i64 d] w fun e w' => ∃ x, e = .returned (.tuple #[.int .i64 x, .bool (Maps.has Dc (plk k d))]) ∧ Dc.atKey (plk k d) (intD 0) = intD x ∧ Below w.heap.size w w' := by
  have c1 := h.c1
  have HO := Lib.hid (fun a w' => ornone_any a w')
  have HFd := Lib.hid (findi_any _ h.hc k d hk hd)
  clear h hk hd
  go_enter Try.func18, Try.ntmps18
  go_wp2_with fail
  refine (HO.out _ _).mono ?_
  rintro e w1 ⟨rfl, rfl⟩
  clear HO
  go_wp2_with fail
  refine (HFd.out).mono ?_
  rintro e w2 ⟨x, rfl, hx, hb2⟩
  have HB2 := Lib.hid hb2
  have HX := Lib.hid hx
  clear hb2 hx HFd c1
  go_wp2_with fail
  exact bodyPost_ret (v := .tuple #[.int .i64 x, .bool (Maps.has Dc (plk k d))]) (by simp [results, Try.results18, go_sem]) rfl ⟨x, rfl, HX.out, HB2.out⟩
/-- A fact that is told. -/
structure Tol where
  c : Bool
  k : Int
  d : Int
  x : Int
  y : Int
  p : Int
def tolV (t : Tol) : Value := .agg #[.bool t.c, .int .i64 t.k, .int .i64 t.d, .int .i64 t.x, .int .i64 t.y, .int .i64 t.p]
def Tol.Ok (t : Tol) : Prop := I64 t.k ∧ I64 t.d ∧ I64 t.x ∧ I64 t.y ∧ I64 t.p
def tolE (t : Tol) : Int := if t.c = true then choE t.k t.d t.p else fixE t.k t.d t.x t.y
noncomputable def tolF (t : Tol) (D : DataW Unit) : DataW Unit := if t.c = true then D else if tolE t = 0 then D.put (plk t.k t.d) (ratD t.x t.y) else D
noncomputable def tolC (t : Tol) (D : DataW Unit) : DataW Unit := if t.c = true then (if tolE t = 0 then D.put (plk t.k t.d) (intD t.p) else D) else D
set_option maxHeartbeats 1000000 in
set_option maxRecDepth 100000 in
theorem tell_any (w : World) {B bf bc n : Nat} {Df Dc : DataW Unit} (h : FacM w B bf bc n Df Dc) (hn : n < maxLen) (t : Tol) (ht : t.Ok) :
    Calls Try.prog 11 #[.pointer (some ⟨B, 0, none⟩), tolV t] w fun e w' => e = .returned (.int .i64 (tolE t)) ∧ ∃ row, FacM w' B bf bc (n + 1) (tolF t Df) (tolC t Dc) ∧ w.grownBy w' row ∧ (row = some bf ∨ row = some bc) := by
  obtain ⟨c, k, d, x, y, p⟩ := t
  obtain ⟨hk, hd, hx, hy, hp⟩ := ht
  unfold tolV tolF tolC tolE
  dsimp only at *
  have hb0 := newF w (.cells #[.bool c, .int .i64 k, .int .i64 d, .int .i64 x, .int .i64 y, .int .i64 p] 31)
  have HB := Lib.hid hb0
  cases c with
  | true =>
    have HF := Lib.hid (fchoose_any _ (h.keep hb0) hn k d p hk hd hp)
    simp only [if_true]
    generalize choE k d p = E at *
    generalize (if E = 0 then Dc.put (plk k d) (intD p) else Dc) = D2 at *
    clear h hb0 hn hk hd hx hy hp
    go_enter Try.func11, Try.ntmps11
    go_wp2_with fail
    refine (HF.out).mono ?_
    rintro e w2 ⟨rfl, hm, hg⟩
    have HM := Lib.hid hm
    have HG := Lib.hid (((grown_below HB.out).but (some bc)).trans hg)
    clear hm hg HF
    go_wp2_with fail
    go_ret
    exact ⟨rfl, some bc, HM.out, HG.out, .inr rfl⟩
  | false =>
    have HF := Lib.hid (ffix_any _ (h.keep hb0) hn k d x y hk hd hx hy)
    simp only [Bool.false_eq_true, if_false]
    generalize fixE k d x y = E at *
    generalize (if E = 0 then Df.put (plk k d) (ratD x y) else Df) = D2 at *
    clear h hb0 hn hk hd hx hy hp
    go_enter Try.func11, Try.ntmps11
    go_wp2_with fail
    refine (HF.out).mono ?_
    rintro e w2 ⟨rfl, hm, hg⟩
    have HM := Lib.hid hm
    have HG := Lib.hid (((grown_below HB.out).but (some bf)).trans hg)
    clear hm hg HF
    go_wp2_with fail
    go_ret
    exact ⟨rfl, some bf, HM.out, HG.out, .inl rfl⟩

end Go.Proofs.Ytgenkigeglleiaa
