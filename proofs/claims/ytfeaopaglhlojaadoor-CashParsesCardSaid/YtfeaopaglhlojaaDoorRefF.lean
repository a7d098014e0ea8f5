/-
  chattelref01's Mul.
-/
import Derived.Test.YtfeaopaglhlojaaDoorRefE
import Derived.Test.YtfeaopaglhlojaaDoorCells
import Derived.OwnWalk
import Derived.Laws.OwnMore
namespace Go.Proofs.YtfeaopaglhlojaaDoor
open Go.RowKit
set_option linter.unusedVariables false

theorem run_append_none_any {P : Program} {w : World} (base : Nat) (t ty e : TypeId) (i : TypeInfo) (size : Nat) (ht : P.underlying t = some (.slice e)) (hi : P.info? e = some i)
    (v : Value) (n c : Nat) (xs : List Value) (hown : w.ownsRow base e size v n xs) :
    (Builtin.append_ #[t, t] ty #[v, .slice none 0 c]).run P w = .ok v w := by
  rcases hown.2 with ⟨rfl, rfl⟩ | ⟨g, cap, cur, rfl, _, _, hnc, _⟩
  · simp [Builtin.append_, run_underlying ht, sizeOf, typeInfo, hi, Builtin.lenOf, Builtin.firstCells]
  · simp [Builtin.append_, run_underlying ht, sizeOf, typeInfo, hi, Builtin.lenOf, Builtin.firstCells, hnc, storeCells]

theorem wpList_append_none_any {P : Program} {w : World} {ops : Array Oper} {rest : List Oper} {o : Oper} {a : Act} {Q : Exit → Act → World → Prop} (hgd : o.guard = none) (s x : Operand) (t : TypeId)
    (ho : o.op = .call { callee := .builtin .append, args := #[s, x], argTypes := #[t, t] })
    (base : Nat) (e : TypeId) (i : TypeInfo) (size : Nat) (ht : P.underlying t = some (.slice e)) (hi : P.info? e = some i)
    (v : Value) (n c : Nat) (xs : List Value) (hs : a.eval s = v) (hown : w.ownsRow base e size v n xs) (hx : a.eval x = .slice none 0 c)
    (h : wpList P ops Q rest (a.put o.dst v) w) : wpList P ops Q (o :: rest) a w := by
  refine wpList_plain hgd fun K hK => ?_
  have hrun := run_append_none_any (P := P) (w := w) base t o.type e i size ht hi v n c xs hown
  unfold Oper.wp
  simp [execOp, ho, resolve, invoke, builtin, hs, hx, hrun, Result.andThen]
  exact hK _ _ h

/-- A row of noughts, made. -/
theorem own_made (w : World) (base n : Nat) (hb : base ≤ w.heap.size) (hn : n ≤ 1000000) : Own (w.alloc (.cells (madeCells #[.int .i64 0] n) 3)) base (.slice (some ⟨w.heap.size, 0, none⟩) n n) (List.replicate n 0) := by
  have h := World.ownsRow_lit (base := base) (e := 3) (size := 1) w (madeCells #[.int .i64 0] n) n hb (by unfold maxLen; omega) (by rw [size_madeCells, Nat.mul_one])
  unfold Own
  rw [toList_madeCells_one] at h
  rw [List.length_replicate, List.map_replicate]
  exact h

theorem val_zeros (i : Nat) (l : List Int) : val (List.replicate i 0 ++ l) = 2 ^ i * val l := by
  induction i with
  | zero => simp
  | succ i ih =>
    rw [List.replicate_succ, List.cons_append]
    show (0 : Int).toNat + 2 * val (List.replicate i 0 ++ l) = _
    rw [ih, Nat.pow_succ, Nat.mul_comm (2 ^ i) 2, Nat.mul_assoc]; simp
theorem bits_zeros (i : Nat) {l : List Int} (h : IsBits l) : IsBits (List.replicate i 0 ++ l) := by
  induction i with
  | zero => simpa using h
  | succ i ih => rw [List.replicate_succ, List.cons_append]; exact IsBits.cons (Or.inl rfl) ih
theorem val_take_succ (b : List Int) (i : Nat) (hi : i < b.length) : val (b.take (i + 1)) = val (b.take i) + 2 ^ i * (b.getD i 0).toNat := by
  rw [List.take_succ_eq_append_getElem hi, val_snoc, List.length_take, Nat.min_eq_left (Nat.le_of_lt hi), List.getD_eq_getElem?_getD, List.getElem?_eq_getElem hi]
  rfl

/-- Where Mul's loop stands. -/
structure MulInv (x : Nat) (b : List Int) (n i : Nat) (out : List Int) : Prop where
  lim : i ≤ b.length
  bits : IsBits out
  eq : val out = x * val (b.take i)
  len : out.length ≤ n + i + 1

theorem MulInv.start (x : Nat) (b : List Int) (n : Nat) : MulInv x b n 0 [] := ⟨Nat.zero_le _, IsBits.nil, by simp [val], by simp⟩
theorem MulInv.skip {x : Nat} {b : List Int} {n i : Nat} {out : List Int} (h : MulInv x b n i out) (hi : i < b.length) (hy : b.getD i 0 = 0) : MulInv x b n (i + 1) out :=
  ⟨hi, h.bits, by rw [val_take_succ b i hi, hy, h.eq]; simp, by have := h.len; omega⟩
theorem MulInv.step {x : Nat} {b : List Int} {n i : Nat} {out out' : List Int} (h : MulInv x b n i out) (hi : i < b.length) (hy : b.getD i 0 = 1) (hn : (bitsN x).length = n)
    (hv : val out' = val out + val (List.replicate i 0 ++ bitsN x)) (hb : IsBits out') (hl : out'.length ≤ out.length + 1 ∨ out'.length ≤ (List.replicate i (0 : Int) ++ bitsN x).length + 1) : MulInv x b n (i + 1) out' := by
  refine ⟨hi, hb, ?_, ?_⟩
  · rw [hv, val_zeros, val_bitsN, val_take_succ b i hi, hy, h.eq, Nat.mul_add, Nat.mul_comm (2 ^ i) x]; simp
  · have := h.len
    rw [List.length_append, List.length_replicate, hn] at hl
    omega

theorem below_app {w w2 : World} {o : Obj} (hg : (w.alloc o).grownBy w2 (some w.heap.size)) : Below w.heap.size w w2 :=
  Below.grown (Below.alloc (Below.refl _ w) (Nat.le_refl _) o) hg (by simp) (by intro k hk; cases hk; exact Nat.le_refl _)

theorem after3p {w w' : World} {s0 s1 t0 t1 u0 u1 : Value} {e1 e2 e3 : TypeId} (hb : Below (((w.alloc (.cells #[s0, s1] e1)).alloc (.cells #[t0, t1] e2)).alloc (.cells #[u0, u1] e3)).heap.size (((w.alloc (.cells #[s0, s1] e1)).alloc (.cells #[t0, t1] e2)).alloc (.cells #[u0, u1] e3)) w') :
    w'.cell? ⟨w.heap.size, 0, none⟩ = some s0 ∧ w'.cell? ⟨w.heap.size, 1, none⟩ = some s1 ∧ w'.cell? ⟨w.heap.size + 1, 0, none⟩ = some t0 ∧ w'.cell? ⟨w.heap.size + 1, 1, none⟩ = some t1 ∧
    w'.cell? ⟨w.heap.size + 1 + 1, 0, none⟩ = some u0 ∧ w'.cell? ⟨w.heap.size + 1 + 1, 1, none⟩ = some u1 ∧ w'.frozen? ⟨w.heap.size + 1 + 1, 0, none⟩ = false ∧ w'.frozen? ⟨w.heap.size + 1 + 1, 1, none⟩ = false ∧ w.heap.size + 3 ≤ w'.heap.size :=
  after3 (w' := w') ⟨hb.os, hb.tape, hb.output, hb.size, hb.block⟩

theorem own_join {w' : World} {base : Nat} {v' : Value} {l : List Int} {i n : Nat} (h : w'.ownsRow base 3 1 v' ((List.replicate i (0 : Int)).length + n) ((List.replicate i 0).map (Value.int .i64) ++ l.map (Value.int .i64))) (hn : n = l.length) : Own w' base v' (List.replicate i 0 ++ l) := by
  unfold Own
  subst hn
  rw [List.length_append, List.map_append]; exact h

theorem row_news {w : World} {b o : Nat} {l : List Int} (h : Row w b o l) : ∀ j u, (l.map (Value.int .i64))[j]? = some u → w.cell? ((⟨b, o, none⟩ : Addr).add j) = some u := by
  intro j u hj
  rw [List.getElem?_map] at hj
  by_cases g : j < l.length
  · have := h j g
    rw [List.getElem?_eq_getElem g] at hj
    rw [List.getD_eq_getElem?_getD, List.getElem?_eq_getElem g] at this
    simp at hj this
    subst hj
    rw [show ((⟨b, o, none⟩ : Addr).add j) = ⟨b, o + j, none⟩ from by simp [Addr.add]]
    exact this
  · rw [List.getElem?_eq_none (by omega)] at hj; cases hj
theorem news_one (l : List Int) : ∀ u ∈ l.map (Value.int .i64), u.oneCell' = true := by
  intro u hu; obtain ⟨x, _, rfl⟩ := List.mem_map.1 hu; rfl

theorem slf_news {w : World} {ad : Addr} {l : List Int} (h : SLF w (some ad) l) : ∀ j u, (l.map (Value.int .i64))[j]? = some u → w.cell? (ad.add j) = some u := by
  rcases h with rfl | ⟨b, o, e, _, hr⟩
  · intro j u hj; simp at hj
  · cases e; exact row_news hr
theorem Own.base {w : World} {b b' : Nat} {v : Value} {l : List Int} (h : Own w b v l) (hb : b' ≤ b) : Own w b' v l := by
  obtain ⟨h1, h2⟩ := h
  refine ⟨h1, ?_⟩
  rcases h2 with h2 | ⟨g, cap, cur, e, hg, h3⟩
  · exact Or.inl h2
  · exact Or.inr ⟨g, cap, cur, e, Nat.le_trans hb hg, h3⟩

theorem join_len (i : Nat) {n : Nat} {l : List Int} (h : n = l.length) : (List.replicate i (0 : Int) ++ l).length = i + n := by rw [List.length_append, List.length_replicate, h]

/-- The call of plus in a round. -/
theorem mul_plus {wr w1 : World} {base : Nat} {va va' : Option Addr} {vc vc' i n : Nat} {out : List Int} {x : Nat} (ho : Own wr base (.slice va out.length vc) out) (hb : Below wr.heap.size wr w1) (hs : SL w1 (.slice va' (i + n) vc') (List.replicate i 0 ++ bitsN x)) (hn : n = (bitsN x).length) (hbo : IsBits out) (hol : out.length ≤ 50000) (hi : i ≤ 1000) (hn1 : n ≤ 1000) :
    Calls Tryd.prog 88 #[.slice va out.length vc, .slice va' (i + n) vc'] w1 (PlusPost out (List.replicate i 0 ++ bitsN x) w1) := by
  obtain ⟨a1, c1, e1, _, _, h1⟩ := (ho.grown hb).sl
  obtain ⟨a2, c2, e2, _, _, h2⟩ := hs
  have hl : (List.replicate i (0 : Int) ++ bitsN x).length = i + n := by rw [List.length_append, List.length_replicate, hn]
  injection e1 with e1 _ e3
  injection e2 with e4 _ e6
  subst e1; subst e3; subst e4; subst e6
  have := plus_any out (List.replicate i 0 ++ bitsN x) _ _ vc vc' w1 h1 h2 hbo (bits_zeros i (bits_of_bitsN x)) (by omega) (by omega)
  rw [hl] at this
  exact this

set_option maxHeartbeats 4000000 in
set_option maxRecDepth 100000 in
theorem rmul_loop (x y : Int) (a b : Option Addr) (c d : Nat) (w : World) (h : BigA w x a c) (h' : BigA w y b d) (hx : x.natAbs < 2 ^ 1000) (hy : y.natAbs < 2 ^ 1000) (sg sg' : Bool) (sx : decide (x < 0) = sg) (sy : decide (y < 0) = sg') :
    Calls Tryd.prog 65 #[.agg #[.bool sg, .slice a (bitsN x.natAbs).length c], .agg #[.bool sg', .slice b (bitsN y.natAbs).length d]] w fun e w' => (∃ v, e = .returned v ∧ BigV w' v (x * y)) ∧ Below w.heap.size w w' := by
  have lx := bitsN_len 1000 _ hx
  have ly := bitsN_len 1000 _ hy
  have HX := Lib.hid h
  have HY := Lib.hid h'
  have HS := Lib.hid (And.intro sx sy)
  obtain ⟨i0, hi0, hz0, hz1, hz2⟩ := info_parts Tryd.infoI
  obtain ⟨n, hn⟩ : ∃ n, n = (bitsN x.natAbs).length := ⟨_, rfl⟩
  obtain ⟨m, hm⟩ : ∃ m, m = (bitsN y.natAbs).length := ⟨_, rfl⟩
  have HN := Lib.hid hn
  have HM := Lib.hid hm
  have hmk := fun (n : Nat) (hn : n ≤ 1000) (w : World) => run_make_row' (P := Tryd.prog) 69 3 (.int .i64 0) 8 Tryd.underlying69 Tryd.infoI rfl .i64 .i64 n (by omega) (by omega) w
  have HMk := Lib.hid hmk
  rw [← hn] at lx ⊢
  rw [← hm] at ly ⊢
  clear h h' sx sy hn hm hx hy hmk
  go_enter Tryd.func65, Tryd.ntmps65
  go_wp2
  go_loopw [5, 6] (fun v vi wx => ∃ (i : Nat) (out : List Int), vi = .int .i64 i ∧ MulInv x.natAbs (bitsN y.natAbs) n i out ∧ Own wx (w.heap.size + 3) v out ∧ Below (((w.alloc (.cells #[.bool sg, .slice a n c] 71)).alloc (.cells #[.bool sg', .slice b m d] 71)).alloc (.cells #[.bool false, .slice none 0 0] 71)).heap.size (((w.alloc (.cells #[.bool sg, .slice a n c] 71)).alloc (.cells #[.bool sg', .slice b m d] 71)).alloc (.cells #[.bool false, .slice none 0 0] 71)) wx) (fun _ vi _ => m - (intOf vi).toNat)
  case atStart => exact ⟨0, [], rfl, MulInv.start _ _ _, Own.nil _ _, Below.refl _ _⟩
  case round =>
    obtain ⟨i, out, rfl, hinv, hown, hbel⟩ := hrel
    obtain ⟨k0, k1, k2, k3, k4, k5, k6, k7, k8⟩ := after3p hbel
    have hil : i ≤ m := by have := hinv.lim; rw [← HM.out] at this; exact this
    have hsz : w.heap.size + 3 ≤ wr.heap.size := k8
    have hbw : Below w.heap.size w wr := (drewN_below3 w _ _ _ 0).trans (hbel.mono (by simp; omega))
    by_cases hc : i < m
    · obtain ⟨bb, oo, hpa, hpb, hpr⟩ := (SLF.keep HY.out.1 hbw).cell (t := i) (by rw [← HM.out]; exact hc)
      subst hpa
      obtain ⟨y0, hy0⟩ : ∃ y0, y0 = (bitsN y.natAbs).getD i 0 := ⟨_, rfl⟩
      have hcx : wr.cell? ⟨bb, oo + i, none⟩ = some (.int .i64 y0) := by rw [hy0]; exact hpr i (by rw [← HM.out]; exact hc)
      have hy01 : y0 = 0 ∨ y0 = 1 := by rw [hy0]; exact bits_of_bitsN _ i
      have hcm : i < (bitsN y.natAbs).length := by rw [← HM.out]; exact hc
      have i1 : (i : Int) < (m : Int) := by omega
      by_cases hy1 : y0 = 0
      · have HI := Lib.hid (hinv.skip hcm (by rw [← hy0]; exact hy1))
        have HO := Lib.hid hown
        have HB := Lib.hid hbel
        subst hy1
        clear hinv hown hbel hy01 hy0 hpr hbw hcm
        go_wp2
        go_roundw
        case rel => exact ⟨i + 1, out, by go_num, HI.out, HO.out, HB.out⟩
        case measure => simp [intOf]; omega
      · have hy2 : y0 = 1 := by omega
        subst hy2
        have hmk := HMk.out i (by omega)
        have ha1 : SLF wr a (bitsN x.natAbs) := SLF.keep HX.out.1 hbw
        have ha2 : SLF (wr.alloc (.cells (madeCells #[.int .i64 0] i) 3)) a (bitsN x.natAbs) := ha1.keep (Below.alloc (Below.refl _ wr) (Nat.le_refl _) _)
        have HA := Lib.hid ha2
        have HMade := Lib.hid (own_made wr wr.heap.size i (Nat.le_refl _) (by omega))
        have HI := Lib.hid hinv
        have HO := Lib.hid hown
        have HB := Lib.hid hbel
        have HYo := Lib.hid hy0
        obtain ⟨va, vc, hve, _, _, _⟩ := hown.sl
        subst hve
        have hol : out.length ≤ n + i + 1 := hinv.len
        have k1' : (wr.alloc (.cells (madeCells #[.int .i64 0] i) 3)).cell? ⟨w.heap.size, 1, none⟩ = some (.slice a n c) := by rw [World.cell?_alloc_past _ _ _ (show w.heap.size < wr.heap.size by omega)]; exact k1
        have hne : w.heap.size ≠ wr.heap.size := by omega
        have hne' : (w.heap.size == wr.heap.size) = false := by simp; omega
        have h63 : (List.replicate i (0 : Int)).length + n ≤ maxLen := by rw [List.length_replicate]; unfold maxLen; omega
        have hby : ((List.replicate i (0 : Int)).length + n) * 8 ≤ 140737488355328 := by rw [List.length_replicate]; omega
        have HCm := Lib.hid hcm
        clear hinv hown hbel hy01 hy0 hpr hbw hcm hy1 ha1 ha2
        rcases a with _ | ad
        · have hx0 : bitsN x.natAbs = [] := by
            rcases HA.out with g | ⟨_, _, g, _⟩
            · exact g
            · cases g
          obtain rfl : n = 0 := by rw [HN.out, hx0]; rfl
          have HB1 := Lib.hid (show Below wr.heap.size wr (wr.alloc (.cells (madeCells #[.int .i64 0] i) 3)) from Below.alloc (Below.refl _ wr) (Nat.le_refl _) _)
          have HPlus := Lib.hid (mul_plus (n := 0) HO.out HB1.out (by rw [hx0, List.append_nil]; exact HMade.out.sl) HN.out HI.out.bits (by omega) (by omega) (by omega))
          rw [Nat.add_zero] at HPlus
          have HX0 := Lib.hid hx0
          clear hx0
          go_wp2_with (first | (at_builtin; refine wpList_append_none_any rfl _ _ 69 rfl wr.heap.size 3 i0 1 Tryd.underlying69 hi0 _ _ c _ rfl HMade.out rfl ?_) | (go_at_call 88; refine HPlus.out.mono ?_; rintro e w' ⟨v2, out2, rfl, ho2, hb2, hv2, hbt2, _, hl2⟩))
          go_roundw
          case rel =>
            exact ⟨i + 1, out2, by go_num, HI.out.step HCm.out HYo.out.symm HN.out.symm hv2 hbt2 hl2, ho2.base (by have := HB1.out.size; omega), HB.out.trans ((HB1.out.mono HB.out.size).trans (hb2.mono (Nat.le_trans HB.out.size HB1.out.size)))⟩
          case measure => simp [intOf]; omega
        · have HNews := Lib.hid (slf_news HA.out)
          go_wp2_with (first | (at_builtin; refine wpList_append_own _ rfl _ _ 69 rfl wr.heap.size 3 i0 (.int .i64 0) 1 8 Tryd.underlying69 hi0 hz0 hz1 hz2 rfl (by decide) _ _ _ rfl HMade.out ad n c ((bitsN x.natAbs).map (Value.int .i64)) rfl (by simp; exact HN.out.symm) HNews.out (news_one _) h63 hby (by simp) ?_; intro v' w1 hown' hgrow _; have HB1 := Lib.hid (below_app hgrow); have hs1 := (own_join hown' HN.out).sl; obtain ⟨va', vc', hve', hs2, hs3, hs4⟩ := id hs1; have hl1 := join_len i HN.out; rw [hl1] at hve'; subst hve'; have HPlus := Lib.hid (mul_plus HO.out HB1.out hs1 HN.out HI.out.bits (by omega) (by omega) (by omega)); clear hown' hgrow hs1 hs2 hs3 hs4 hl1) | (go_at_call 88; refine HPlus.out.mono ?_; rintro e w' ⟨v2, out2, rfl, ho2, hb2, hv2, hbt2, _, hl2⟩))
          go_roundw
          case rel =>
            exact ⟨i + 1, out2, by go_num, HI.out.step HCm.out HYo.out.symm HN.out.symm hv2 hbt2 hl2, ho2.base (by have := HB1.out.size; omega), HB.out.trans ((HB1.out.mono HB.out.size).trans (hb2.mono (Nat.le_trans HB.out.size HB1.out.size)))⟩
          case measure => simp [intOf]; omega
    · have him : i = m := by omega
      subst him
      have hv : val out = (x * y).natAbs := by
        rw [hinv.eq, HM.out, List.take_length, val_bitsN, Int.natAbs_mul]
      obtain ⟨va, vc, hve, e1, e2, e3⟩ := hown.sl
      subst hve
      have HT := Lib.hid (trim_any out va vc wr e3 hinv.bits e1 e2 (by have := hinv.len; omega))
      have HV := Lib.hid hv
      have HB := Lib.hid hbel
      obtain ⟨L, hL⟩ : ∃ L, (bitsN (x * y).natAbs).length = L := ⟨_, rfl⟩
      have hpos := @bitsN_len_pos (x * y)
      rw [hL] at hpos
      have HL : Hid ((bitsN (val out)).length = L) := Lib.hid (by rw [HV.out, hL])
      obtain ⟨f, hf⟩ : ∃ f, (sg != sg') = f := ⟨_, rfl⟩
      have hsgn : f = true → 0 < L → x * y < 0 := by
        intro h1 h2
        subst h1
        have hne := hpos.1 h2
        have hx0 : x ≠ 0 := fun e => hne (by rw [e, Int.zero_mul])
        have hy0 : y ≠ 0 := fun e => hne (by rw [e, Int.mul_zero])
        obtain ⟨s1, s2⟩ := HS.out
        cases sg <;> cases sg' <;> simp at hf
        · have := of_decide_eq_false s1; have := of_decide_eq_true s2
          exact Int.mul_neg_of_pos_of_neg (by omega) (by omega)
        · have := of_decide_eq_true s1; have := of_decide_eq_false s2
          exact Int.mul_neg_of_neg_of_pos (by omega) (by omega)
      have hsgn2 : f = false → ¬ x * y < 0 := by
        intro h1
        subst h1
        obtain ⟨s1, s2⟩ := HS.out
        cases sg <;> cases sg' <;> simp at hf
        · have := of_decide_eq_false s1; have := of_decide_eq_false s2
          have := Int.mul_nonneg (show 0 ≤ x by omega) (show 0 ≤ y by omega); omega
        · have := of_decide_eq_true s1; have := of_decide_eq_true s2
          have := Int.mul_nonneg_of_nonpos_of_nonpos (show x ≤ 0 by omega) (show y ≤ 0 by omega); omega
      have hsgn3 : ¬ 0 < L → ¬ x * y < 0 := fun h1 h2 => h1 (hpos.2 (by omega))
      have hq0 : (sg == sg') = !f := by rw [← hf]; cases sg <;> cases sg' <;> rfl
      clear hf
      cases f
      · have HZ : Hid (false = decide (x * y < 0)) := Lib.hid (decide_eq_false (hsgn2 rfl)).symm
        have hq : (sg == sg') = true := hq0
        clear hq0
        clear hinv hown hbel hv hL hpos hsgn hsgn2 hsgn3 e1 e2 e3 hbw hc
        go_wp2_with (go_at_call 91; refine HT.out.mono ?_; rintro e w' ⟨⟨v, rfl, hs⟩, rfl⟩; obtain ⟨va', vc', hve, _, _, _⟩ := id hs; rw [HL.out] at hve; subst hve; have HR := Lib.hid hs; clear hs)
        exact bodyPost_ret (v := .agg #[.bool false, .slice va' L vc']) (by simp [results, Tryd.results65, go_sem, k4, k5]) rfl (big_end3 (w3 := ((w.alloc _).alloc _).alloc _) (drewN_below3 w _ _ _ 0) (by simp) HB.out (by have := HR.out; rw [HV.out] at this; exact this) HZ.out k4 k5)
      · have hq : (sg == sg') = false := hq0
        clear hq0
        by_cases hp : 0 < L
        · have HZ : Hid (true = decide (x * y < 0)) := Lib.hid (decide_eq_true (hsgn rfl hp)).symm
          clear hinv hown hbel hv hL hpos hsgn hsgn2 hsgn3 e1 e2 e3 hbw hc
          go_wp2_with (go_at_call 91; refine HT.out.mono ?_; rintro e w' ⟨⟨v, rfl, hs⟩, rfl⟩; obtain ⟨va', vc', hve, _, _, _⟩ := id hs; rw [HL.out] at hve; subst hve; have HR := Lib.hid hs; clear hs)
          exact bodyPost_ret (v := .agg #[.bool true, .slice va' L vc']) (by simp [results, Tryd.results65, go_sem, k4, k5]) rfl (big_end3 (w3 := ((w.alloc _).alloc _).alloc _) (drewN_below3 w _ _ _ 0) (by simp) HB.out (by have := HR.out; rw [HV.out] at this; exact this) HZ.out k4 k5)
        · have HZ : Hid (false = decide (x * y < 0)) := Lib.hid (decide_eq_false (hsgn3 hp)).symm
          clear hinv hown hbel hv hL hpos hsgn hsgn2 hsgn3 e1 e2 e3 hbw hc
          go_wp2_with (go_at_call 91; refine HT.out.mono ?_; rintro e w' ⟨⟨v, rfl, hs⟩, rfl⟩; obtain ⟨va', vc', hve, _, _, _⟩ := id hs; rw [HL.out] at hve; subst hve; have HR := Lib.hid hs; clear hs)
          exact bodyPost_ret (v := .agg #[.bool false, .slice va' L vc']) (by simp [results, Tryd.results65, go_sem, k4, k5]) rfl (big_end3 (w3 := ((w.alloc _).alloc _).alloc _) (drewN_below3 w _ _ _ 0) (by simp) HB.out (by have := HR.out; rw [HV.out] at this; exact this) HZ.out k4 k5)

theorem rmul_any (x y : Int) (v v' : Value) (w : World) (h : BigV w v x) (h' : BigV w v' y) (hx : x.natAbs < 2 ^ 1000) (hy : y.natAbs < 2 ^ 1000) :
    Calls Tryd.prog 65 #[v, v'] w fun e w' => (∃ v, e = .returned v ∧ BigV w' v (x * y)) ∧ Below w.heap.size w w' := by
  obtain ⟨a, c, rfl, g⟩ := h.open
  obtain ⟨b, d, rfl, g'⟩ := h'.open
  exact rmul_loop x y a b c d w g g' hx hy _ _ rfl rfl

end Go.Proofs.YtfeaopaglhlojaaDoor
