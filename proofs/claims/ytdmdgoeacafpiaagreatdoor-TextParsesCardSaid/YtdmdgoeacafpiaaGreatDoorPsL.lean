/-
  Package text: read: what it answers.
-/
import Derived.Test.YtdmdgoeacafpiaaGreatDoorPsK
import Derived.Scope
import Derived.WalkMore
namespace Go.Proofs.YtdmdgoeacafpiaaGreatDoor
open Go.RowKit Go.Lib Go.Shelf
set_option linter.unusedVariables false
set_option linter.unusedSimpArgs false
attribute [local go_sem] Oper.semAt_some

/-- Where a text is wrong, and how; else what has come. -/
def ReadK (s : ByteArray) (a E : Nat) (m : Mc) : Prop :=
  let T := toks 0 s.data.toList
  let X := runM m0 (T.map Prod.snd)
  (X.2.1 ≠ 0 → a = (T.getD X.1 default).1 ∧ E = X.2.1) ∧ (X.2.1 = 0 → X.2.2.D ≠ [] → a = s.size ∧ E = 13) ∧ (X.2.1 = 0 → X.2.2.D = [] → a = 0 ∧ E = 0 ∧ m = X.2.2)
theorem wpIn_scope_wide {n : Nat} {P : Program} {c : Code} {Q : Exit → Act → World → Prop} {a : Act} {w : World} (h : c.wpIn Fence.wide n P (Exit.noGoto Q) a w) : (Code.scope c).wpIn Fence.wide n P Q a w := wpIn_wide.2 (wp_scope_straight (wpIn_wide.1 h))
theorem wpListIn_store_whole {F : Fence} {nF : Nat} {P : Program} {ops : Array Oper} {rest : List Oper} {o : Oper} {a : Act} {w : World} {Q : Exit → Act → World → Prop} (hgd : o.guard = none) (ty : TypeId) (x y : Operand) (ho : o.op = .store ty x y)
    (g : Nat) (cells : Array Value) (hx : a.eval x = .pointer (some ⟨g, 0, none⟩)) (hy : a.eval y = .agg cells)
    (t : TypeId) (old : Array Value) (hg : w.heap[g]? = some (.cells old t (0, 0))) (hi : (P.info? ty).map (·.size) = some cells.size)
    (hold : old.size = cells.size) (h1 : cells.all (·.oneCell') = true)
    (h : wpListIn F nF P ops Q rest (a.put o.dst undef) (w.setRow g cells)) : wpListIn F nF P ops Q (o :: rest) a w := by
  refine wpListIn_plain hgd fun K hK => ?_
  unfold Oper.wpIn
  refine ⟨by simp [Oper.about, ho], ?_⟩
  rw [Oper.semAt_plain F _ _ (by rw [ho]; intro c hc'; cases hc')]
  simp only [execOp, ho, hx, hy, Instr.storeAt, Instr.sureAddr, Sem.run_bind, Sem.run_pure, Result.andThen_ok, run_storeVar_row w g t ty old cells hg hi hold h1]
  exact hK _ _ h
/-- What the machine has behind so many tokens. -/
def upM (T : List Tk) {c : Nat} (pre : List (Fin c)) : Nat × Nat × Mc := runM m0 (pre.map fun x => (T.getD x.1 default).2)
theorem upM_nil (T : List Tk) {c : Nat} : upM T ([] : List (Fin c)) = (0, 0, m0) := rfl
theorem upto_take {α : Type} [Inhabited α] (l : List α) : ∀ k, k ≤ l.length → uptoT (fun i => l.getD i default) k = l.take k
  | 0, _ => rfl
  | k + 1, h => by
    rw [uptoT_succ, upto_take l k (by omega), List.take_add_one, List.getD_eq_getElem?_getD, List.getElem?_eq_getElem (by omega)]
    rfl
theorem upM_upF (T : List Tk) (c k : Nat) (hc : c = T.length) (h : k ≤ c) : upM T (upF c k h) = runM m0 ((T.map Prod.snd).take k) := by
  unfold upM
  rw [upF_map c (fun i => (T.getD i default).2) k h]
  congr 1
  rw [← upto_take (T.map Prod.snd) k (by simp; omega)]
  unfold uptoT
  apply List.map_congr_left
  intro i hi
  have hi' : i < k := by simpa using hi
  rw [List.getD_eq_getElem?_getD, List.getD_eq_getElem?_getD, List.getElem?_map, List.getElem?_eq_getElem (by omega)]
  rfl
theorem upM_snoc (T : List Tk) {c : Nat} (pre : List (Fin c)) (x : Fin c) (h : (upM T pre).2.1 = 0) : upM T (pre ++ [x]) = if (takeM (upM T pre).2.2 (T.getD x.1 default).2).1 = 0 then (pre.length + 1, takeM (upM T pre).2.2 (T.getD x.1 default).2) else (pre.length, takeM (upM T pre).2.2 (T.getD x.1 default).2) := by
  unfold upM at h ⊢
  rw [List.map_append, List.map_cons, List.map_nil, runM_snoc h, List.length_map]
/-- A place that no block of a set is. -/
def RdP (n0 a b c : Nat) (k : Nat) : Prop := k < n0 ∨ k = a ∨ k = b ∨ k = c
def RdQ (n0 z e : Nat) (k : Nat) : Prop := k < n0 ∨ (z ≤ k ∧ k < e)
/-- Between two rounds. -/
structure RdJ (T : List Tk) (n0 z zt W0s B : Nat) (s : ByteArray) (W0 : World) {c : Nat} (pre : List (Fin c)) (W : World) : Prop where
  ok : (upM T pre).2.1 = 0
  good : GoodM pre.length (upM T pre).2.2
  ps : PsM W (RdQ n0 z W0s) B s (upM T pre).2.2
  ce : W.cell? ⟨z + 1 + 1, 0, none⟩ = some (.int .i64 0)
  fe : W.frozen? ⟨z + 1 + 1, 0, none⟩ = false
  cw : W.cell? ⟨z + 1, 0, none⟩ = some (.int .i64 0)
  fw : W.frozen? ⟨z + 1, 0, none⟩ = false
  kp : KpP (RdP n0 z zt (zt + 1)) W0 W
/-- Behind a token that was wrong. -/
structure RdX (T : List Tk) (n0 z zt : Nat) (W0 : World) {c : Nat} (j : Code) (pre : List (Fin c)) (W : World) : Prop where
  ex : j = .exit 0
  wr : ∃ (pre' : List (Fin c)) (x : Fin c) (E : Nat), pre = pre' ++ [x] ∧ (upM T pre').2.1 = 0 ∧ (takeM (upM T pre').2.2 (T.getD x.1 default).2).1 = E ∧ E ≠ 0 ∧ W.cell? ⟨z + 1 + 1, 0, none⟩ = some (.int .i64 E) ∧ W.cell? ⟨z + 1, 0, none⟩ = some (.int .i64 ((T.getD x.1 default).1 : Nat))
  kp : KpP (RdP n0 z zt (zt + 1)) W0 W
theorem RdJ.own {T : List Tk} {n0 z zt W0s B : Nat} {s : ByteArray} {W0 : World} {c : Nat} (hP : ∀ k, RdP n0 z zt (zt + 1) k → k < W0.heap.size) : OwnFrom W0.heap.size (RdJ (c := c) T n0 z zt W0s B s W0) := fun pre A D row h hg hr => by
  have hr' : ∀ r, row = some r → ∃ o : Obj, A.heap[r]? = some o ∧ o.isCells = false := fun r e => (hr r e).2
  exact ⟨h.ok, h.good, h.ps.turn hg hr', cell_kept h.ce hg hr', (frozen_kept h.ce hg hr').trans h.fe, cell_kept h.cw hg hr', (frozen_kept h.cw hg hr').trans h.fw,
    h.kp.trans (KpP.grown hg (fun k hk => Nat.lt_of_lt_of_le (hP k hk) h.kp.size) (fun k e hk => by have := (hr k e).1; have := hP k hk; omega))⟩
theorem RdX.own {T : List Tk} {n0 z zt : Nat} {W0 : World} {c : Nat} (hP : ∀ k, RdP n0 z zt (zt + 1) k → k < W0.heap.size) (j : Code) : OwnFrom W0.heap.size (RdX (c := c) T n0 z zt W0 j) := fun pre A D row h hg hr => by
  have hr' : ∀ r, row = some r → ∃ o : Obj, A.heap[r]? = some o ∧ o.isCells = false := fun r e => (hr r e).2
  obtain ⟨h1, ⟨pre', x, E, h2, h3, h4, h5, h6, h7⟩, h8⟩ := h
  exact ⟨h1, ⟨pre', x, E, h2, h3, h4, h5, cell_kept h6 hg hr', cell_kept h7 hg hr'⟩,
    h8.trans (KpP.grown hg (fun k hk => Nat.lt_of_lt_of_le (hP k hk) h8.size) (fun k e hk => by have := (hr k e).1; have := hP k hk; omega))⟩

theorem PsM.wide {w : World} {P : Nat → Prop} {B : Nat} {s : ByteArray} {m : Mc} (h : PsM w P B s m) : ∃ Q : Nat → Prop, (∀ k, P k → Q k) ∧ (∀ k o, w.heap[k]? = some o → o.isCells = false → Q k) ∧ PsM w Q B s m := by
  obtain ⟨vn, vd, h⟩ := h
  have key : ∀ {v : Value} {n : Nat} {e : TypeId} {size : Nat} {xs : List Value}, w.ownsRow 0 e size v n xs → ∀ k, v.ownBlock = some k → ¬ ∃ o, w.heap[k]? = some o ∧ o.isCells = false := by
    rintro v n e size xs hr k hk ⟨o, ho, hc⟩
    rcases row_cells hr (row := some k) (fun r e => by cases e; exact ⟨o, ho, hc⟩) with h1 | h1
    · rw [h1] at hk; cases hk
    · exact h1 hk
  refine ⟨fun k => P k ∨ ∃ o, w.heap[k]? = some o ∧ o.isCells = false, fun k => .inl, fun k o h1 h2 => .inr ⟨o, h1, h2⟩, vn, vd, h.c0, h.c1, h.c2, h.c3, h.fr, h.hn, h.hd, h.ap, fun k hk => ⟨(h.bn k hk).1, ?_⟩, fun k hk => ⟨(h.bd k hk).1, ?_⟩, ?_, ?_⟩
  · rintro (h1 | h1)
    · exact (h.bn k hk).2 h1
    · exact key h.hn k hk h1
  · rintro (h1 | h1)
    · exact (h.bd k hk).2 h1
    · exact key h.hd k hk h1
  · rintro (h1 | ⟨o, h1, h2⟩)
    · exact h.nb h1
    · have := h.c0
      unfold World.cell? at this
      rw [h1] at this
      cases o <;> simp_all [Obj.isCells]
  · rintro k (h1 | ⟨o, h1, h2⟩)
    · exact h.lt k h1
    · exact (Array.getElem?_eq_some_iff.1 h1).1
theorem PsM.less {w : World} {P Q : Nat → Prop} {B : Nat} {s : ByteArray} {m : Mc} (h : PsM w P B s m) (hQ : ∀ k, Q k → P k) : PsM w Q B s m := by
  obtain ⟨vn, vd, h⟩ := h
  exact ⟨vn, vd, h.less hQ⟩
theorem PsM.set {w : World} {P : Nat → Prop} {B : Nat} {s : ByteArray} {m : Mc} (h : PsM w P B s m) {b : Nat} (hb : P b) (i : Nat) (v : Value) : PsM (w.setCell ⟨b, i, none⟩ v) P B s m := by
  obtain ⟨vn, vd, h⟩ := h
  refine ⟨vn, vd, h.grown (set_grown w ⟨b, i, none⟩ v) (fun e => h.nb (by injection e with e; exact e ▸ hb)) (ne_row (fun j hj e => (h.bn j hj).2 (e ▸ hb))) (ne_row (fun j hj e => (h.bd j hj).2 (e ▸ hb)))⟩
theorem PsM.text {w : World} {P : Nat → Prop} {B : Nat} {s : ByteArray} {m : Mc} (h : PsM w P B s m) : w.cell? ⟨B, 0, none⟩ = some (.string s) := by
  obtain ⟨_, _, h⟩ := h
  exact h.c0
theorem PsM.lt {w : World} {P : Nat → Prop} {B : Nat} {s : ByteArray} {m : Mc} (h : PsM w P B s m) : ∀ k, P k → k < w.heap.size := by
  obtain ⟨_, _, h⟩ := h
  exact h.lt
theorem kpp_drew (P : Nat → Prop) (W : World) : KpP P W W.drew := ⟨rfl, rfl, rfl, Nat.le_refl _, fun _ _ => rfl⟩
theorem KpP.frz {P : Nat → Prop} {w w' : World} (h : KpP P w w') {a : Addr} (ha : P a.block) : w'.frozen? a = w.frozen? a := World.frozen?_of_block (h.block _ ha)
theorem pfn_enters (p : Nat) (hp : p < 10) : ∀ args W, (callFunc (pfn p) args).run Tryz.prog W = .ok (.enter (pfn p) args) W :=
  match p, hp with
  | 0, _ => enters_of Tryz.func33 (by kernel_rfl) rfl
  | 1, _ => enters_of Tryz.func34 (by kernel_rfl) rfl
  | 2, _ => enters_of Tryz.func35 (by kernel_rfl) rfl
  | 3, _ => enters_of Tryz.func36 (by kernel_rfl) rfl
  | 4, _ => enters_of Tryz.func37 (by kernel_rfl) rfl
  | 5, _ => enters_of Tryz.func38 (by kernel_rfl) rfl
  | 6, _ => enters_of Tryz.func39 (by kernel_rfl) rfl
  | 7, _ => enters_of Tryz.func40 (by kernel_rfl) rfl
  | 8, _ => enters_of Tryz.func41 (by kernel_rfl) rfl
  | 9, _ => enters_of Tryz.func42 (by kernel_rfl) rfl
  | p + 10, h => absurd h (by omega)
theorem box_cell (w : World) (v : Value) (t : TypeId) : (w.alloc (.cells #[v] t)).cell? ⟨w.heap.size, 0, none⟩ = some v := by rw [World.cell?_alloc_at _ _ _ _ rfl]; rfl
theorem round_on {T : List Tk} {n0 z z1 B : Nat} {s : ByteArray} {W0 W w2 : World} {c : Nat} {pre : List (Fin c)} {x : Fin c} {Pw : Nat → Prop} {RR : Nat × Mc} {m : Mc} (hz : z + 3 ≤ z1 ∧ W0.heap.size = z1 + 2) (hn0 : n0 ≤ z)
    (hPw1 : ∀ k, RdQ n0 z W0.heap.size k → Pw k) (hPw2 : ∀ k o, W.heap[k]? = some o → o.isCells = false → Pw k) (hKA : KpP Pw W w2) (hRR : RR.1 = 0) (hsn : upM T (pre ++ [x]) = if RR.1 = 0 then (pre.length + 1, RR) else (pre.length, RR)) (hgd : RR.1 = 0 → GoodM (pre.length + 1) RR.2)
    (hq : RR.1 = 0 → PsM w2 Pw B s RR.2) (hkp : KpP (RdP n0 z z1 (z1 + 1)) W0 W) (htx : W.cell? ⟨B, 0, none⟩ = some (.string s)) (hce : (w2.setCell ⟨z + 1 + 1, 0, none⟩ (.int .i64 (RR.1 : Nat))).cell? ⟨z + 1 + 1, 0, none⟩ = some (.int .i64 (RR.1 : Nat))) (hfe : w2.frozen? ⟨z + 1 + 1, 0, none⟩ = false)
    (hcw : (w2.setCell ⟨z + 1 + 1, 0, none⟩ (.int .i64 (RR.1 : Nat))).cell? ⟨z + 1, 0, none⟩ = some (.int .i64 0)) (hfw : (w2.setCell ⟨z + 1 + 1, 0, none⟩ (.int .i64 (RR.1 : Nat))).frozen? ⟨z + 1, 0, none⟩ = false) :
    KeepsFrom W0.heap.size W (w2.setCell ⟨z + 1 + 1, 0, none⟩ (.int .i64 (RR.1 : Nat))) ∧ KpR (z1 + 1) B W (w2.setCell ⟨z + 1 + 1, 0, none⟩ (.int .i64 (RR.1 : Nat))) ∧ RdJ T n0 z z1 W0.heap.size B s W0 (pre ++ [x]) (w2.setCell ⟨z + 1 + 1, 0, none⟩ (.int .i64 (RR.1 : Nat))) := by
  have hps := (hq hRR)
  have hqe : Pw (z + 1 + 1) := hPw1 _ (.inr ⟨by omega, by omega⟩)
  have hps3 := hps.set hqe 0 (.int .i64 (RR.1 : Nat))
  have hX : upM T (pre ++ [x]) = (pre.length + 1, RR) := by rw [hsn, if_pos hRR]
  refine ⟨⟨Nat.le_trans hKA.size (by simp), fun k o hk ho hc => ?_⟩, ⟨fun v hv => ?_, fun v hv => ?_⟩, ⟨by rw [hX]; exact hRR, by rw [hX, List.length_append]; exact hgd hRR, by rw [hX]; exact hps3.less hPw1, by rw [hce, hRR]; rfl, by rw [World.frozen?_setCell]; exact hfe, hcw, hfw, ?_⟩⟩
  · rw [heap_setCell_other _ _ _ _ (by show k ≠ z + 1 + 1; omega), hKA.block k (hPw2 k o ho hc)]; exact ho
  · rw [cell_far (.inl (by omega)), hKA.cell (a := ⟨z1 + 1, 0, none⟩) (show Pw (z1 + 1) from hPw1 _ (.inr ⟨by omega, by omega⟩))]; exact hv
  · rw [htx] at hv; injection hv with hv; subst hv; exact hps3.text
  · refine hkp.trans (KpP.trans (hKA.less fun k hk => hPw1 k (by rcases hk with h | h | h | h; exact .inl h; exact .inr ⟨by omega, by omega⟩; exact .inr ⟨by omega, by omega⟩; exact .inr ⟨by omega, by omega⟩)) ⟨rfl, rfl, rfl, by simp, fun k hk => heap_setCell_other _ _ _ _ ?_⟩)
    rcases hk with h | h | h | h
    · show k ≠ z + 1 + 1; omega
    · show k ≠ z + 1 + 1; omega
    · show k ≠ z + 1 + 1; omega
    · show k ≠ z + 1 + 1; omega
theorem round_off {T : List Tk} {n0 z z1 B : Nat} {s : ByteArray} {W0 W w2 : World} {c : Nat} {pre : List (Fin c)} {x : Fin c} {Pw : Nat → Prop} {RR : Nat × Mc} {m : Mc} {at_ : Nat} (hz : z + 3 ≤ z1 ∧ W0.heap.size = z1 + 2) (hn0 : n0 ≤ z)
    (hPw1 : ∀ k, RdQ n0 z W0.heap.size k → Pw k) (hPw2 : ∀ k o, W.heap[k]? = some o → o.isCells = false → Pw k) (hKA : KpP Pw W w2) (hRR : ¬ RR.1 = 0) (hok : (upM T pre).2.1 = 0) (htk : takeM (upM T pre).2.2 (T.getD x.1 default).2 = RR) (hat : at_ = (T.getD x.1 default).1)
    (hkp : KpP (RdP n0 z z1 (z1 + 1)) W0 W) (hce : (w2.setCell ⟨z + 1 + 1, 0, none⟩ (.int .i64 (RR.1 : Nat))).cell? ⟨z + 1 + 1, 0, none⟩ = some (.int .i64 (RR.1 : Nat)))
    (hcw : (w2.setCell ⟨z + 1 + 1, 0, none⟩ (.int .i64 (RR.1 : Nat))).cell? ⟨z + 1, 0, none⟩ = some (.int .i64 0)) :
    KeepsFrom W0.heap.size W ((w2.setCell ⟨z + 1 + 1, 0, none⟩ (.int .i64 (RR.1 : Nat))).setCell ⟨z + 1, 0, none⟩ (.int .i64 (at_ : Nat))) ∧ RdX T n0 z z1 W0 (.exit 0) (pre ++ [x]) ((w2.setCell ⟨z + 1 + 1, 0, none⟩ (.int .i64 (RR.1 : Nat))).setCell ⟨z + 1, 0, none⟩ (.int .i64 (at_ : Nat))) := by
  refine ⟨⟨Nat.le_trans hKA.size (by simp), fun k o hk ho hc => ?_⟩, rfl, ⟨pre, x, RR.1, rfl, hok, by rw [htk], hRR, ?_, ?_⟩, ?_⟩
  · rw [heap_setCell_other _ _ _ _ (by show k ≠ z + 1; omega), heap_setCell_other _ _ _ _ (by show k ≠ z + 1 + 1; omega), hKA.block k (hPw2 k o ho hc)]; exact ho
  · rw [cell_far (.inl (by omega))]; exact hce
  · rw [cell_here hcw, hat]
  · refine hkp.trans (KpP.trans (hKA.less fun k hk => hPw1 k (by rcases hk with h | h | h | h; exact .inl h; exact .inr ⟨by omega, by omega⟩; exact .inr ⟨by omega, by omega⟩; exact .inr ⟨by omega, by omega⟩)) ⟨rfl, rfl, rfl, by simp, fun k hk => ?_⟩)
    have hk1 : k ≠ z + 1 ∧ k ≠ z + 1 + 1 := by rcases hk with h | h | h | h <;> omega
    rw [heap_setCell_other _ _ _ _ (by show k ≠ z + 1; exact hk1.1), heap_setCell_other _ _ _ _ (by show k ≠ z + 1 + 1; exact hk1.2)]
set_option maxRecDepth 100000 in
set_option maxHeartbeats 4000000 in
theorem tread_any (n0 : Nat) (s : ByteArray) (hs : s.size ≤ 3000) (B : Nat) (w : World) (H : PsM w (· < n0) B s m0) (hn0 : n0 ≤ w.heap.size) (T0 : Tb n0 w) :
    Calls Tryz.prog 12 #[.pointer (some ⟨B, 0, none⟩)] w fun e w' => ∃ (a E : Nat) (m : Mc), ReadK s a E m ∧ e = .returned (.tuple #[.int .i64 a, .int .i64 E]) ∧ (E = 0 → PsM w' (· < n0) B s m) ∧ Below n0 w w' := by
  obtain ⟨T, hT⟩ : ∃ T, T = toks 0 s.data.toList := ⟨_, rfl⟩
  have HT := Lib.hid hT
  have HTk := Lib.hid (fun w => takers_any w)
  have HMk := Lib.hid (fun w => tokens_make ⟨B, 0, none⟩ w)
  have HH := Lib.hid H
  have HTb := Lib.hid T0
  clear hT H T0
  obtain ⟨n, hn⟩ : ∃ n : Nat, 4 ≤ n := ⟨4, by omega⟩
  have h1 : 1 ≤ n := by omega
  refine callsIn_wide.1 (callsIn_of_wp_marks (n := n) Tryz.func12 rfl trivial ?_ rfl)
  simp only [Tryz.ntmps12, List.size_toArray, List.length_cons, List.length_nil, Nat.reduceAdd, Nat.reduceSub, Array.replicate_succ, Array.replicate_zero, List.push_toArray, List.append_toArray, List.nil_append, List.cons_append]
  gi_wp2
  refine wpIn_scope_wide ?_
  gi_wp2
  refine wide_in2 (HTk.out _) ?_
  rintro e w1 ⟨rfl, hb1⟩
  have HB1 := Lib.hid hb1
  clear hb1
  gi_wp2_with (refine wpListIn_store_whole rfl 57 _ _ rfl w1.heap.size tkA rfl rfl _ _ (heap_alloc_new w1 _) (by kernel_rfl) rfl tkA_one ?_; rw [World.setRow_alloc_new])
  refine wpIn_label ?_
  have hba := HB1.out
  have cP1 : (w1.alloc (.cells tkA 57)).cell? ⟨w.heap.size, 0, none⟩ = some (.pointer (some ⟨B, 0, none⟩)) := newT (keepT hba (newT (newT (box_cell _ _ _) _) _)) _
  have cW1 : (w1.alloc (.cells tkA 57)).cell? ⟨w.heap.size + 1, 0, none⟩ = some (.int .i64 0) := by
    refine newT (keepT hba (newT ?_ _)) _
    rw [World.cell?_alloc_at _ _ _ _ (by simp)]; rfl
  have cE1 : (w1.alloc (.cells tkA 57)).cell? ⟨w.heap.size + 1 + 1, 0, none⟩ = some (.int .i64 0) := by
    refine newT (keepT hba ?_) _
    rw [World.cell?_alloc_at _ _ _ _ (by simp)]; rfl
  gi_wp2
  refine wide_in2 (HMk.out _) ?_
  rintro e w2 ⟨rfl, rfl⟩
  gi_wp2
  obtain ⟨W0, hW0⟩ : ∃ W0, W0 = (w1.alloc (.cells tkA 57)).alloc (.cells #[.pointer (some ⟨B, 0, none⟩)] 74) := ⟨_, rfl⟩
  have hsz1 := hba.size
  simp only [World.size_alloc] at hsz1
  have z0 : W0.heap.size = w1.heap.size + 2 := by rw [hW0]; simp
  have hBw0 : Below w.heap.size w W0 := by
    rw [hW0]
    have h3 : Below w.heap.size w (((w.alloc (.cells #[.pointer (some ⟨B, 0, none⟩)] 55)).alloc (.cells #[.int .i64 0] 3)).alloc (.cells #[.int .i64 0] 24)) := (((Below.refl _ w).alloc (Nat.le_refl _) _).alloc (by simp) _).alloc (by simp; omega) _
    exact onB (onB (onB h3 hba) (newB _ _)) (newB _ _)
  have cP : W0.cell? ⟨w.heap.size, 0, none⟩ = some (.pointer (some ⟨B, 0, none⟩)) := by rw [hW0]; exact newT cP1 _
  have cW : W0.cell? ⟨w.heap.size + 1, 0, none⟩ = some (.int .i64 0) := by rw [hW0]; exact newT cW1 _
  have cE : W0.cell? ⟨w.heap.size + 1 + 1, 0, none⟩ = some (.int .i64 0) := by rw [hW0]; exact newT cE1 _
  have hfr : ∀ b, w.heap.size ≤ b → b < w.heap.size + 3 → W0.frozen? ⟨b, 0, none⟩ = false := fun b h1 h2 => by
    have h4 : (((w.alloc (.cells #[.pointer (some ⟨B, 0, none⟩)] 55)).alloc (.cells #[.int .i64 0] 3)).alloc (.cells #[.int .i64 0] 24)).frozen? ⟨b, 0, none⟩ = false := by
      have b0 := ((Boxed.new w 55 (.pointer (some ⟨B, 0, none⟩))).alloc (.cells #[.int .i64 0] 3)).alloc (.cells #[.int .i64 0] 24)
      have b1 := (Boxed.new (w.alloc (.cells #[.pointer (some ⟨B, 0, none⟩)] 55)) 3 (.int .i64 0)).alloc (.cells #[.int .i64 0] 24)
      have b2 := Boxed.new ((w.alloc (.cells #[.pointer (some ⟨B, 0, none⟩)] 55)).alloc (.cells #[.int .i64 0] 3)) 24 (.int .i64 0)
      rw [World.size_alloc] at b1
      rw [World.size_alloc, World.size_alloc] at b2
      obtain rfl | rfl | rfl : b = w.heap.size ∨ b = w.heap.size + 1 ∨ b = w.heap.size + 1 + 1 := by omega
      · exact b0.frozen
      · exact b1.frozen
      · exact b2.frozen
    rw [hW0]
    have h5 := (onB (onB hba (newB _ (.cells tkA 57))) (newB _ (.cells #[.pointer (some ⟨B, 0, none⟩)] 74))).frozen (p := ⟨b, 0, none⟩) (by simp; omega)
    exact h5.trans h4
  have cT : ∀ j, j < 10 → W0.cell? ⟨w1.heap.size, j, none⟩ = some (.func (.func (pfn j)) #[] #[]) := fun j hj => by
    rw [hW0]
    refine newT ?_ _
    rw [World.cell?_alloc_at _ _ _ _ rfl]
    match j, hj with
    | 0, _ => rfl
    | 1, _ => rfl
    | 2, _ => rfl
    | 3, _ => rfl
    | 4, _ => rfl
    | 5, _ => rfl
    | 6, _ => rfl
    | 7, _ => rfl
    | 8, _ => rfl
    | 9, _ => rfl
  have cR : W0.cell? ⟨w1.heap.size + 1, 0, none⟩ = some (.pointer (some ⟨B, 0, none⟩)) := by
    rw [hW0, World.cell?_alloc_at _ _ _ _ (by simp)]; rfl
  have hlt0 : ∀ k, RdP n0 w.heap.size w1.heap.size (w1.heap.size + 1) k → k < W0.heap.size := fun k hk => by
    rcases hk with h | h | h | h <;> omega
  have hps : PsM W0 (RdQ n0 w.heap.size W0.heap.size) B s m0 := by
    obtain ⟨vn, vd, h⟩ := HH.out
    exact ⟨vn, vd, h.more hBw0 (fun k hk => by rcases hk with h | h; exact .inl h; exact .inr h.1) (fun k hk => by rcases hk with h | h <;> omega)⟩
  have hcB : W0.cell? ⟨B, 0, none⟩ = some (.string s) := by obtain ⟨_, _, h⟩ := hps; exact h.c0
  have HT0 := Lib.hid (HTb.out.keep hBw0)
  rw [← hW0]
  have HBw0 := Lib.hid hBw0
  have HFr := Lib.hid hfr
  have HcT := Lib.hid cT
  have HZ := Lib.hid z0
  have HS1 := Lib.hid hsz1
  have Hlt0 := Lib.hid hlt0
  have HcP := Lib.hid cP
  clear hW0 hba cP1 cW1 cE1 HB1 HMk HTk HH hBw0 hfr cT hlt0 hsz1 z0
  generalize hz1 : w1.heap.size = z1 at *
  clear hz1 w1
  obtain ⟨c, hc⟩ : ∃ c, c = T.length := ⟨_, rfl⟩
  have HC := Lib.hid hc
  clear hc
  refine wpIn_rangeFunc_ownG rfl h1 (gf := 43) (lb := #[.pointer (some ⟨z1 + 1, 0, none⟩)]) rfl trivial (enters_of Tryz.func43 (by kernel_rfl) rfl)
    (tokens_stops (n - 1) (z1 + 1) B s hs T HT.out c HC.out W0 cR hcB) KpR.trans (fun W l o o' h hl hc _ => KpR.put W l o o' hl hc) (Below.refl _ _) (fun _ => rfl)
    (RdJ T n0 w.heap.size z1 W0.heap.size B s W0) (RdX T n0 w.heap.size z1 W0) (RdJ.own Hlt0.out) (RdX.own Hlt0.out)
    ⟨rfl, good_start, hps, cE, HFr.out _ (by omega) (by omega), cW, HFr.out _ (by omega) (by omega), KpP.refl _ _⟩
    (fun x : Fin c => { tmps := #[.pointer (some ⟨B, 0, none⟩), .pointer (some ⟨w.heap.size, 0, none⟩), .int .i64 0, .int .i64 0, .pointer (some ⟨w.heap.size + 1, 0, none⟩), .pointer (some ⟨w.heap.size + 1 + 1, 0, none⟩), .pointer (some ⟨z1, 0, none⟩), .int .i64 ((T.getD x.1 default).1 : Nat), .string ⟨(T.getD x.1 default).2.toArray⟩, .agg tkA, .pointer (some ⟨B, 0, none⟩), .pointer (some ⟨B, 0, none⟩), .pointer (some ⟨B, 0, none⟩), .func (.func 43) #[] #[.pointer (some ⟨z1 + 1, 0, none⟩)], .int .i64 ((T.getD x.1 default).1 : Nat), .string ⟨(T.getD x.1 default).2.toArray⟩, undef, undef, undef, undef, undef, undef, undef, undef, undef, undef, undef, undef, undef, undef, undef, undef, undef, undef, undef, undef, undef, undef, undef, undef, undef, undef, undef, undef], defers := [] }) ?assign ?body ?done ?stop
  case assign =>
    intro l x W K hK
    dsimp only [encK]
    gi_wp2
    exact hK
  case body =>
    rintro l pre x W ⟨hok, hgood, hpsW, ce, fe, cw, fw, hkp⟩ hlt
    have hd : 1 ≤ n - 1 - 1 := by omega
    have hmx : Tryz.prog.follows .mixedOrders = true := by kernel_rfl
    have hgt := good_tl hgood
    have hpsR := hpsW
    obtain ⟨Pw, hPw1, hPw2, hpsW⟩ := hpsR.wide
    have HPw1 := Lib.hid hPw1
    have HPw2 := Lib.hid hPw2
    clear hPw1 hPw2
    obtain ⟨wd, hwd⟩ : ∃ wd, wd = (T.getD x.1 default).2 := ⟨_, rfl⟩
    obtain ⟨at_, hat⟩ : ∃ at_, at_ = (T.getD x.1 default).1 := ⟨_, rfl⟩
    rw [← hwd, ← hat]
    have HWd := Lib.hid hwd
    have HAt := Lib.hid hat
    have hwl : wd.length ≤ 3000 := by
      by_cases hx : x.1 < T.length
      · have hm : T.getD x.1 default ∈ toks 0 s.data.toList := by
          rw [List.getD_eq_getElem?_getD, List.getElem?_eq_getElem hx, ← HT.out]; exact List.getElem_mem hx
        have := (tok_ne _ _ _ hm).2.1
        rw [← hwd] at this
        have h2 : s.data.toList.length = s.size := by simp
        omega
      · exact absurd x.2 (fun h => hx (HC.out ▸ h))
    have hlc : pre.length ≤ 3000 := by
      have h3 := toks_len s.data.toList 0
      rw [← HT.out] at h3
      have h2 : s.data.toList.length = s.size := by simp
      have := HC.out
      omega
    have HSn := Lib.hid (upM_snoc T pre x hok)
    rw [← hwd] at HSn
    have HGd := Lib.hid hgood
    have HOk := Lib.hid hok
    obtain ⟨m, hm⟩ : ∃ m, m = (upM T pre).2.2 := ⟨_, rfl⟩
    rw [← hm] at hpsW hpsR hgt HSn HGd hgood
    have HM := Lib.hid hm
    have HTk := Lib.hid (takeM_eq m wd)
    have HGt := Lib.hid (fun e : (takeM m wd).1 = 0 => good_take hgood e)
    obtain ⟨RR, hRR⟩ : ∃ RR, RR = takeM m wd := ⟨_, rfl⟩
    have HRr : Hid (takeM (upM T pre).2.2 (T.getD x.1 default).2 = RR) := Lib.hid (by rw [← HM.out, ← HWd.out, hRR])
    rw [← hRR] at HSn HTk HGt
    have hmo : -1000000 ≤ (tlD m).o ∧ (tlD m).o ≤ 1000000 := by
      obtain ⟨_, g2, g3, _⟩ := hgood
      show -1000000 ≤ m.o ∧ m.o ≤ 1000000
      omega
    have hDl : m.D.length ≤ 100000 := by have := hgood.2.2.2.1; have := hgood.1; omega
    have HNx := Lib.hid (fun (W' : World) (h : PsM W' Pw B s m) => next_any Pw B s m hDl W' h)
    have HPt := Lib.hid (fun (W' : World) (h : PsM W' Pw B s (tlD m)) (h2 : Tb n0 W') => part_any n0 Pw (fun k hk => HPw1.out k (.inl hk)) B s (tlD m) hgt.1 hgt.2.1 hmo (hdD m) hgt.2.2.1 hgt.2.2.2 wd hwl W' h h2)
    rw [← HTk.out] at HPt
    generalize hpp : hdD m = p at *
    have hp10 := hgt.2.2.1
    have HPs := Lib.hid hpsW
    have HKp := Lib.hid hkp
    have cPW := (hkp.cell (a := ⟨w.heap.size, 0, none⟩) (.inr (.inl rfl))).trans HcP.out
    have p0 : (0 : Int) ≤ (p : Int) := by omega
    have p1 : (p : Int) < 10 := by omega
    have HP10 := Lib.hid hp10
    have HTW := Lib.hid (HT0.out.kp hkp (fun k hk => .inl hk))
    have HTx := Lib.hid hpsR.text
    clear hwd hat hwl hlc hgood hok hm hRR hmo hDl hpp hgt hp10 hpsW hpsR hkp cP cW cE cR hcB hps
    have cPd : W.drew.cell? ⟨w.heap.size, 0, none⟩ = some (.pointer (some ⟨B, 0, none⟩)) := cPW
    have HcTW : Hid (W.cell? ⟨z1, p, none⟩ = some (.func (.func (pfn p)) #[] #[])) := Lib.hid ((HKp.out.cell (a := ⟨z1, p, none⟩) (.inr (.inr (.inl rfl)))).trans (HcT.out p HP10.out))
    have hcf := pfn_enters p HP10.out
    generalize pfn p = fp at *
    have hzz : Hid (w.heap.size + 3 ≤ z1 ∧ W0.heap.size = z1 + 2) := Lib.hid ⟨HS1.out, HZ.out⟩
    have q1 : Hid (Pw w.heap.size) := Lib.hid (HPw1.out _ <| .inr ⟨Nat.le_refl _, by have := hzz.out; omega⟩)
    have q2 : Hid (Pw z1) := Lib.hid (HPw1.out _ <| .inr ⟨by have := hzz.out; omega, by have := hzz.out; omega⟩)
    have q3 : Hid (Pw (w.heap.size + 1 + 1)) := Lib.hid (HPw1.out _ <| .inr ⟨by omega, by have := hzz.out; omega⟩)
    have q4 : Hid (Pw (w.heap.size + 1)) := Lib.hid (HPw1.out _ <| .inr ⟨by omega, by have := hzz.out; omega⟩)
    refine wpIn_block ?_
    refine wpIn_seq_k fun K hK => ?_
    have key : ∀ w2 : World, KpP Pw W w2 → (RR.1 = 0 → PsM w2 Pw B s RR.2) → K { tmps := #[.pointer (some ⟨B, 0, none⟩), .pointer (some ⟨w.heap.size, 0, none⟩), .int .i64 0, .int .i64 0, .pointer (some ⟨w.heap.size + 1, 0, none⟩), .pointer (some ⟨w.heap.size + 1 + 1, 0, none⟩), .pointer (some ⟨z1, 0, none⟩), .int .i64 (at_ : Nat), .string ⟨wd.toArray⟩, .agg tkA, .pointer (some ⟨B, 0, none⟩), .pointer (some ⟨B, 0, none⟩), .pointer (some ⟨B, 0, none⟩), .func (.func 43) #[] #[.pointer (some ⟨z1 + 1, 0, none⟩)], .int .i64 (at_ : Nat), .string ⟨wd.toArray⟩, .pointer (some ⟨B, 0, none⟩), .int .i64 (p : Nat), .pointer (some ⟨z1, p, none⟩), .func (.func fp) #[] #[], .pointer (some ⟨B, 0, none⟩), .string ⟨wd.toArray⟩, .int .i64 (RR.1 : Nat), undef, undef, undef, undef, undef, undef, undef, undef, undef, undef, undef, undef, undef, undef, undef, undef, undef, undef, undef, undef, undef], defers := [] } (w2.setCell ⟨w.heap.size + 1 + 1, 0, none⟩ (.int .i64 (RR.1 : Nat))) := fun w2 hKA hQ => by
      have cE2 := (hKA.cell (a := ⟨w.heap.size + 1 + 1, 0, none⟩) q3.out).trans ce
      have fE2 := (hKA.frz (a := ⟨w.heap.size + 1 + 1, 0, none⟩) q3.out).trans fe
      have cE3 := cell_here (v := .int .i64 (RR.1 : Nat)) cE2
      have cW3 : (w2.setCell ⟨w.heap.size + 1 + 1, 0, none⟩ (.int .i64 (RR.1 : Nat))).cell? ⟨w.heap.size + 1, 0, none⟩ = some (.int .i64 0) := (cell_far (.inl (by omega))).trans ((hKA.cell (a := ⟨w.heap.size + 1, 0, none⟩) q4.out).trans cw)
      have fW3 : (w2.setCell ⟨w.heap.size + 1 + 1, 0, none⟩ (.int .i64 (RR.1 : Nat))).frozen? ⟨w.heap.size + 1, 0, none⟩ = false := by
        rw [World.frozen?_setCell]
        exact (hKA.frz (a := ⟨w.heap.size + 1, 0, none⟩) q4.out).trans fw
      have HKA := Lib.hid hKA
      have HQ2 := Lib.hid hQ
      have HCE := Lib.hid cE3
      have HCW := Lib.hid cW3
      have HFE := Lib.hid fE2
      refine hK _ _ ?_
      by_cases hz : RR.1 = 0
      · have hz1 : ((RR.1 : Int) == 0) = true := by simp [hz]
        have HZz := Lib.hid hz
        clear hz cE2 cPd cPW hcf ce fe cw fw hKA hQ hK
        gi_wp2
        exact round_on (m := m) hzz.out hn0 HPw1.out HPw2.out HKA.out HZz.out HSn.out HGt.out HQ2.out HKp.out HTx.out HCE.out HFE.out HCW.out fW3
      · have hz1 : ((RR.1 : Int) == 0) = false := by simp; omega
        have HZz := Lib.hid hz
        clear hz cE2 cPd cPW hcf ce fe cw fw hKA hQ hK
        gi_wp2
        exact round_off (m := m) (s := s) (B := B) hzz.out hn0 HPw1.out HPw2.out HKA.out HZz.out HOk.out HRr.out HAt.out HKp.out HCE.out HCW.out
    have HKey := Lib.hid key
    clear key hK
    gi_region_with_o (first
      | (refine ⟨trivial, ?_⟩; gi_at_call 19; go_loud (refine (CallsIn.inRound l (callsIn_wide.2 (HNx.out W.drew (HPs.out.keep (Below.drew (Below.refl _ _)))))).mono ?_); go_loud (rintro e w1 ⟨rfl, hps1, hk1⟩); have HPs1 := Lib.hid hps1; have HK1 := Lib.hid hk1; go_loud (have cP1 := (hk1.cell (a := ⟨w.heap.size, 0, none⟩) q1.out).trans cPd); go_loud (have cT1 := (hk1.cell (a := ⟨z1, p, none⟩) q2.out).trans HcTW.out); clear hps1 hk1)
      | (refine ⟨trivial, ?_⟩; refine (CallsIn.inRound l (callsIn_wide.2 (HPt.out w1 HPs1.out (HTW.out.on ((below_drewT W 1).mono (HTW.out.le) |>.trans (HK1.out.below (fun k hk => HPw1.out k (.inl hk)))))))).mono ?_; rintro e w2 ⟨rfl, hq2, hk2⟩; have HQ2 := Lib.hid hq2; have HK2 := Lib.hid hk2; have cE2 := (hk2.cell (a := ⟨w.heap.size + 1 + 1, 0, none⟩) q3.out).trans ((HK1.out.cell (a := ⟨w.heap.size + 1 + 1, 0, none⟩) q3.out).trans ce); have fE2 := (hk2.frz (a := ⟨w.heap.size + 1 + 1, 0, none⟩) q3.out).trans ((HK1.out.frz (a := ⟨w.heap.size + 1 + 1, 0, none⟩) q3.out).trans fe); clear hq2 hk2))
    all_goals exact HKey.out w2 ((kpp_drew Pw W).trans (HK1.out.trans HK2.out)) HQ2.out
  case done =>
    rintro D ys W hD rfl ⟨hok, hgood, hpsW, ce, fe, cw, fw, hkp⟩ hK
    have hX := upM_upF T c c HC.out (Nat.le_refl _)
    rw [List.take_of_length_le (by rw [List.length_map, HC.out]; exact Nat.le_refl _)] at hX
    rw [hX] at hok hpsW
    have cPW := (hkp.cell (a := ⟨w.heap.size, 0, none⟩) (.inr (.inl rfl))).trans HcP.out
    have hBW : Below n0 w W := (HBw0.out.mono hn0).trans (hkp.below (fun k hk => .inl hk))
    have HBW := Lib.hid hBW
    have HRk : Hid (∀ a E m, ((runM m0 (T.map Prod.snd)).2.2.D ≠ [] → a = s.size ∧ E = 13) → ((runM m0 (T.map Prod.snd)).2.2.D = [] → a = 0 ∧ E = 0 ∧ m = (runM m0 (T.map Prod.snd)).2.2) → ReadK s a E m) := Lib.hid (fun a E m h1 h2 => by
      unfold ReadK
      rw [← HT.out]
      exact ⟨fun h => absurd hok h, fun _ => h1, fun _ => h2⟩)
    obtain ⟨m, hm⟩ : ∃ m, m = (runM m0 (T.map Prod.snd)).2.2 := ⟨_, rfl⟩
    rw [← hm] at hpsW HRk
    have HPs := Lib.hid hpsW
    have HD := Lib.hid (show n0 ≤ D by have := HBw0.out.size; omega)
    have hpsT := (hpsW.keep (Below.drew (Below.refl _ _))).turn (grownBy_putObj' W.drew D (.deferred none)) (fun r e => by cases e; exact ⟨_, hK, rfl⟩)
    have hBT := HBW.out.trans (belowK_b (w := W0) (by have := HBw0.out.size; omega) W D _ (.deferred none) hD hK rfl rfl)
    have hBD := (HBW.out.trans (Below.drew (Below.refl _ _))).trans (belowK_b (w := W0) (by have := HBw0.out.size; omega) W.drew D _ (.deferred none) hD hK rfl rfl)
    have HBD := Lib.hid hBD
    clear hBD
    obtain ⟨vn, vd, hr⟩ := hpsW
    have c0 := hr.c0
    have c3 := hr.c3
    obtain ⟨ad, cd, hvd⟩ := Own.sliceI hr.hd
    rw [hvd] at c3
    have HPT := Lib.hid (hpsT.less (Q := (· < n0)) (fun k hk => .inl hk))
    have HBT := Lib.hid hBT
    clear hgood hok hX hm hBW hpsT hBT hr hvd fe fw hkp cP cW cE cR hcB hps
    have hlD := dueL_len m.D
    by_cases hDe : m.D = []
    · have hl0 : (dueL m.D).length = 0 := by rw [hlD, hDe]; rfl
      rw [hl0] at c3
      have HDe := Lib.hid hDe
      clear hDe hl0 hlD
      gi_wp2
      have cwd : W.drew.cell? ⟨w.heap.size + 1, 0, none⟩ = some (.int .i64 0) := cw
      have ced : W.drew.cell? ⟨w.heap.size + 1 + 1, 0, none⟩ = some (.int .i64 0) := ce
      gi_region
      all_goals gi_wp2
      all_goals rw [Exit.noGoto_ret]
      all_goals refine ⟨by simp, .inl ⟨_, _, rfl, run_takeDeferred hK, ?_⟩⟩
      all_goals exact ⟨_, results_tmp2 rfl _ _ _, 0, 0, m, HRk.out _ _ _ (fun h => absurd HDe.out h) (fun _ => ⟨rfl, rfl, rfl⟩), rfl, fun _ => HPT.out, HBD.out⟩
    · have hl0 : (0 : Int) < ((dueL m.D).length : Int) := by
        rw [hlD]
        have : m.D.length ≠ 0 := fun e => hDe (List.length_eq_zero_iff.1 e)
        omega
      have HDe := Lib.hid hDe
      clear hDe hlD
      gi_wp2
      rw [Exit.noGoto_ret]
      refine ⟨by simp, .inl ⟨_, _, rfl, run_takeDeferred hK, ?_⟩⟩
      exact ⟨_, results_tmp2 rfl _ _ _, s.size, 13, m, HRk.out _ _ _ (fun _ => ⟨rfl, rfl⟩) (fun e => absurd e HDe.out), rfl, fun e => (by cases e), HBT.out⟩
  case stop =>
    rintro D j pre W hD ⟨k, hk, rfl⟩ ⟨rfl, ⟨pre', x, E, hpre, ho', htk, hE, ce, cw⟩, hkp⟩ hK
    have hx : k = pre'.length + 1 := by
      have := congrArg List.length hpre
      rw [upF_length, List.length_append] at this
      exact this
    subst hx
    have hpq : pre' = upF c pre'.length (by omega) ∧ x = ⟨pre'.length, hk⟩ := by
      rw [upF] at hpre
      have := List.append_inj hpre.symm (by rw [upF_length])
      refine ⟨this.1, ?_⟩
      have h2 := this.2
      injection h2
    obtain ⟨hp1, hp2⟩ := hpq
    have hX := upM_upF T c pre'.length HC.out (by omega)
    rw [← hp1] at hX
    obtain ⟨q, hq⟩ : ∃ q, q = pre'.length := ⟨_, rfl⟩
    have hx1 : x.1 = q := by rw [hp2, hq]
    have hqc : q < c := by rw [hq]; exact hk
    rw [← hq] at hX
    rw [hX] at ho' htk
    rw [hx1] at htk cw
    have HRk : Hid (ReadK s (T.getD q default).1 E m0) := Lib.hid (by
      unfold ReadK
      rw [← HT.out]
      have hqT : q < T.length := by rw [← HC.out]; exact hqc
      have hdr : (T.map Prod.snd).drop q = (T.getD q default).2 :: (T.map Prod.snd).drop (q + 1) := by
        rw [List.drop_eq_getElem_cons (by rw [List.length_map]; exact hqT), List.getElem_map, List.getD_eq_getElem?_getD, List.getElem?_eq_getElem hqT]
        rfl
      have h1 := (runM_app ((T.map Prod.snd).take q) ((T.getD q default).2 :: (T.map Prod.snd).drop (q + 1)) m0 ho')
      rw [h1.2, runM_no (by rw [htk]; exact hE), List.length_take, List.length_map, Nat.min_eq_left (by omega), ← hdr, List.take_append_drop] at h1
      have hrun := h1.1
      dsimp only
      rw [hrun]
      dsimp only
      rw [htk]
      exact ⟨fun _ => ⟨rfl, rfl⟩, fun h => absurd h hE, fun h => absurd h hE⟩)
    have HE := Lib.hid hE
    have hE1 : ((E : Int) == 0) = false := by simp; omega
    have hBT := ((HBw0.out.mono hn0).trans (hkp.below (fun k hk => .inl hk))).trans ((Below.drew (Below.refl _ _)).trans (belowK_b (w := W0) (by have := HBw0.out.size; omega) W.drew D _ (.deferred none) hD hK rfl rfl))
    have HBT := Lib.hid hBT
    have cwd : W.drew.cell? ⟨w.heap.size + 1, 0, none⟩ = some (.int .i64 ((T.getD q default).1 : Nat)) := cw
    have ced : W.drew.cell? ⟨w.heap.size + 1 + 1, 0, none⟩ = some (.int .i64 E) := ce
    clear hX ho' htk hE hBT hkp hpre hp1 hp2 hx1 hqc hq cP cW cE cR hcB hps
    generalize (T.getD q default).1 = at_ at *
    gi_wp2
    gi_region
    all_goals gi_wp2
    all_goals rw [Exit.noGoto_ret]
    all_goals refine ⟨by simp, .inl ⟨_, _, rfl, run_takeDeferred hK, ?_⟩⟩
    all_goals exact ⟨_, results_tmp2 rfl _ _ _, at_, E, m0, HRk.out, rfl, fun e => absurd e HE.out, HBT.out⟩

end Go.Proofs.YtdmdgoeacafpiaaGreatDoor
