/-
  Package text: written, Print: what they answer.
-/
import Derived.Test.YtdmdgoeacafpiaaGreatDoorPsP
import Derived.Test.YtdmdgoeacafpiaaGreatDoorPsO
import Derived.Test.YtdmdgoeacafpiaaGreatDoorTrm
namespace Go.Proofs.YtdmdgoeacafpiaaGreatDoor
open Go.RowKit Go.Lib
set_option linter.unusedVariables false
set_option linter.unusedSimpArgs false

/-- The text of the term at a place. -/
def prF (t : List Nd) : Nat → Nat → List UInt8
  | 0, _ => []
  | f + 1, p => hdX (t.getD p default) ++ (if cnO (opA t p) = 0 then [] else 40 :: Lib.join (uptoT (fun i => prF t f (plA t (p + 1) i)) (cnO (opA t p))) [44, 32] ++ [41])
def prT (t : List Nd) (p : Nat) : List UInt8 := prF t (szA t p) p
theorem joinX_len (L : List (List UInt8)) : (Lib.join L [44, 32]).length ≤ 2 * L.length + Lib.lens L := by
  cases L with
  | nil => simp [Lib.join]
  | cons x r => rw [Lib.join_length]; simp; omega
theorem lens_upto (g : Nat → List UInt8) (k : Nat) : Lib.lens (uptoT g (k + 1)) = Lib.lens (uptoT g k) + (g k).length := by
  rw [uptoT_succ]; unfold Lib.lens; simp
theorem hdX_len {n : Nd} (h : okN n) : (hdX n).length ≤ 50 := by
  obtain ⟨h1, h2, h3, h4⟩ := h
  unfold hdX
  by_cases ho : n.op = 1
  · rw [if_pos ho]
    obtain ⟨_, ⟨a1, a2⟩, b1, b2⟩ := h3 ho
    unfold txt
    have l1 := itoa_len20 a1 a2
    have l2 := itoa_len20 b1 b2
    split
    · omega
    · simp; omega
  · rw [if_neg ho]
    have hk := ixO_lt n.op
    obtain ⟨s1, s2, s3⟩ := fd_some ⟨ixO n.op, hk⟩
    have hw := wd_len ⟨ixO n.op, hk⟩
    dsimp only at s1 hw
    have l : ∀ f ∈ fdN (ixO n.op), (fieldX n f).length ≤ 20 := fun f hf => fieldX_len n f (h4 f hf)
    rw [s1] at l ⊢
    by_cases a : fdC (ixO n.op) 0 = 0 <;> by_cases b : fdC (ixO n.op) 1 = 0 <;> simp [a, b] at l ⊢ <;> omega
theorem prF_len {t : List Nd} (hok : ∀ p, p < t.length → okN (t.getD p default)) : ∀ f p, TmA t p → szA t p ≤ f → (prF t f p).length ≤ 70 * szA t p
  | 0, p, hT, hf => by have := hT.bd; omega
  | f + 1, p, hT, hf => by
    have hb := hT.bd
    have h1 := hdX_len (hok p hT.lt)
    rw [prF]
    generalize hdX (t.getD p default) = X at *
    by_cases hc : cnO (opA t p) = 0
    · rw [if_pos hc]; simp; omega
    · rw [if_neg hc]
      obtain ⟨_, hk, hend⟩ := hT.parts
      have key : ∀ k, k ≤ cnO (opA t p) → Lib.lens (uptoT (fun i => prF t f (plA t (p + 1) i)) k) + 70 * (p + 1) ≤ 70 * plA t (p + 1) k := by
        intro k
        induction k with
        | zero => intro _; simp [uptoT, Lib.lens, plA]
        | succ k ih =>
          intro hk2
          have i1 := ih (by omega)
          obtain ⟨k1, k2, k3⟩ := hT.kid (i := k) (by omega)
          have i2 := prF_len hok f _ k1 (by omega)
          rw [lens_upto, plA]
          omega
      have k1 := key _ (Nat.le_refl _)
      have k2 := joinX_len (uptoT (fun i => prF t f (plA t (p + 1) i)) (cnO (opA t p)))
      rw [uptoT_length] at k2
      have k3 := cn_le (opA t p)
      rw [hend] at k1
      simp
      omega
theorem prF_eq {t : List Nd} : ∀ (f p : Nat), TmA t p → szA t p ≤ f → prF t f p = prT t p
  | 0, p, h, hf => by have := h.bd; omega
  | f + 1, p, h, hf => by
    have hb := h.bd
    obtain ⟨g, hg⟩ : ∃ g, szA t p = g + 1 := ⟨szA t p - 1, by omega⟩
    unfold prT
    rw [hg, prF, prF]
    have e : uptoT (fun i => prF t f (plA t (p + 1) i)) (cnO (opA t p)) = uptoT (fun i => prF t g (plA t (p + 1) i)) (cnO (opA t p)) := by
      unfold uptoT
      apply List.map_congr_left
      intro i hi
      have hi' : i < cnO (opA t p) := by simpa using hi
      obtain ⟨k1, k2, k3⟩ := h.kid hi'
      rw [prF_eq f _ k1 (by omega)]
      exact (prF_eq g _ k1 (by omega)).symm
    rw [e]
termination_by f _ => f
decreasing_by all_goals omega

theorem infoST : (Tryz.prog.info? 9).map (fun i => (i.zero, i.size, i.bytes)) = some (some (.string ⟨#[]⟩), 1, 16) := by kernel_rfl
/-- A slice of texts of the call's own. -/
def OwnT (w : World) (base : Nat) (v : Value) (L : List (List UInt8)) : Prop := w.ownsRow base 9 1 v L.length (L.map fun x => Value.string ⟨x.toArray⟩)
theorem OwnT.nil (w : World) (base : Nat) : OwnT w base (.slice none 0 0) [] := World.ownsRow_nil _ _ _ _
theorem OwnT.grown {w w' : World} {base : Nat} {v : Value} {t : List (List UInt8)} (h : OwnT w base v t) (hg : Below w.heap.size w w') : OwnT w' base v t := World.ownsRow.kept h (grown_none hg) own_ne_none
theorem wpList_append_text {w : World} {ops : Array Oper} {rest : List Oper} {o : Oper} {a : Act} {Q : Exit → Act → World → Prop} (hgd : o.guard = none) (s x : Operand)
    (ho : o.op = .call { callee := .builtin .append, args := #[s, x], argTypes := #[71, 71] })
    (base : Nat) (v : Value) (t : List (List UInt8)) (hs : a.eval s = v) (hown : OwnT w base v t) (ad : Addr) (u : List UInt8) (hx : a.eval x = .slice (some ad) 1 1) (hc : w.cell? (ad.add 0) = some (.string ⟨u.toArray⟩))
    (hlen : t.length ≤ 100000) (hbase : base ≤ w.heap.size)
    (h : ∀ v' w', OwnT w' base v' (t ++ [u]) → w.grownBy w' v.ownBlock → (v'.ownBlock = v.ownBlock ∨ v'.ownBlock = some w.heap.size) → wpList Tryz.prog ops Q rest (a.put o.dst v') w') : wpList Tryz.prog ops Q (o :: rest) a w := by
  obtain ⟨i0, hi0, hz0, hz1, hz2⟩ := info_parts infoST
  refine wpList_append_own_at _ hgd s x 71 ho base 9 i0 _ 1 16 Tryz.underlying71 hi0 hz0 hz1 hz2 rfl (by decide) v t.length (t.map fun x => Value.string ⟨x.toArray⟩) hs (show w.ownsRow base 9 1 v t.length (t.map fun x => Value.string ⟨x.toArray⟩) from hown) ad 1 1 [.string ⟨u.toArray⟩] hx rfl (fun j z hz => by
    match j, hz with
    | 0, hz => rw [hc]; exact hz) (fun z hz => by rw [List.mem_singleton] at hz; subst hz; rfl) (by unfold maxLen; omega) (by omega) hbase ?_
  intro v' w' h1 h2 _ h3
  refine h v' w' ?_ h2 h3
  unfold OwnT
  rw [List.length_append, List.map_append]; exact h1
theorem own_slice {w : World} {base : Nat} {e : TypeId} {size : Nat} {v : Value} {n : Nat} {xs : List Value} (h : w.ownsRow base e size v n xs) : ∃ a c, v = .slice a n c := by
  rcases h.2 with ⟨rfl, rfl⟩ | ⟨g, cap, cur, rfl, _⟩
  · exact ⟨_, _, rfl⟩
  · exact ⟨_, _, rfl⟩
theorem below_own {B base : Nat} {w0 w w' : World} {e : TypeId} {size : Nat} {v : Value} {n : Nat} {xs : List Value} (hb : Below B w0 w) (ho : w.ownsRow base e size v n xs) (hB : B ≤ base) (hw : B ≤ w.heap.size) (hg : w.grownBy w' v.ownBlock) : Below B w0 w' := by
  refine hb.grown hg (by omega) (fun k hk => ?_)
  have := World.ownsRow.lt ho k hk
  omega
/-- Texts of the call's own, joined. -/
theorem join_own {w : World} {base : Nat} {v : Value} {L : List (List UInt8)} (h : OwnT w base v L) (h0 : L ≠ []) (hl : L.length ≤ 1000) (hlen : (Lib.join L [44, 32]).length ≤ 100000) :
    Calls Tryz.prog 32 #[v, .string ⟨#[44, 32]⟩] w fun e w' => e = .returned (.string ⟨(Lib.join L [44, 32]).toArray⟩) ∧ Below w.heap.size w w' := by
  obtain ⟨h1, h2⟩ := id h
  rcases h2 with ⟨_, e⟩ | ⟨g, cap, cur, rfl, _, hg, hn, hm, _⟩
  · exact absurd (List.length_eq_zero_iff.1 e) h0
  · have hlt : g < w.heap.size := (World.ownsRow.lt h g rfl).2
    have e1 : (L.map fun x => (⟨x.toArray⟩ : ByteArray)).map (·.data.toList) = L := by
      rw [List.map_map]
      exact (List.map_congr_left (fun x _ => by simp)).trans (List.map_id L)
    have := Tryz.strings_Join g 0 cap (L.map fun x => (⟨x.toArray⟩ : ByteArray)) ⟨#[44, 32]⟩ w (fun j x hx => by
      have := h.cells (g := g) rfl j (.string x) (by
        rw [List.getElem?_map] at hx ⊢
        cases hq : L[j]? with
        | none => rw [hq] at hx; cases hx
        | some y => rw [hq] at hx; injection hx with hx; rw [← hx]; rfl)
      rw [Go.WideShapes.add_plain] at this; exact this) hlt (by simp; omega) (by simpa using hn) (by rw [e1]; exact Nat.le_trans hlen (by decide))
    rw [e1, List.length_map] at this
    exact this

set_option maxRecDepth 100000 in
set_option maxHeartbeats 4000000 in
theorem written_step (t : List Nd) (hL : t.length ≤ 64) (hok : ∀ p, p < t.length → okN (t.getD p default)) (b o cap : Nat) (hcap : t.length ≤ cap) (hcm : cap ≤ 9223372036854775807) (f : Nat)
    (ih : ∀ p, TmA t p → szA t p ≤ f → ∀ w, NdA w b o t → KndW w → TbP w → Calls Tryz.prog 16 #[.slice (some ⟨b, o, none⟩) t.length cap, .int .i64 p] w fun e w' => e = .returned (.string ⟨(prF t f p).toArray⟩) ∧ Below w.heap.size w w')
    (p : Nat) (hT : TmA t p) (hf : szA t p ≤ f + 1) (w : World) (hN : NdA w b o t) (C : KndW w) (T : TbP w) :
    Calls Tryz.prog 16 #[.slice (some ⟨b, o, none⟩) t.length cap, .int .i64 p] w fun e w' => e = .returned (.string ⟨(prF t (f + 1) p).toArray⟩) ∧ Below w.heap.size w w' := by
  have hp := hT.lt
  have HN := Lib.hid hN
  have HC := Lib.hid C
  have HT := Lib.hid T
  have hokp := hok p hp
  have hhl := hdX_len hokp
  have hlen := prF_len hok (f + 1) p hT hf
  have hbd := hT.bd
  have HHd := Lib.hid (headof_any (t.getD p default) hokp w T)
  have HBl := Lib.hid (fun (w' : World) (hb : Below w.heap.size w w') => below_ok t (by omega) b o cap p hcap hcm hT w' (hN.keep hb) (C.keep hb))
  obtain ⟨n0, n1, n2, n3, n4⟩ := hN p hp
  have HPr : Hid (prF t (f + 1) p = hdX (t.getD p default) ++ (if cnO (opA t p) = 0 then [] else 40 :: Lib.join (uptoT (fun i => prF t f (plA t (p + 1) i)) (cnO (opA t p))) [44, 32] ++ [41])) := Lib.hid (by rw [prF])
  have HKid : Hid (∀ i, i < cnO (opA t p) → ∀ w', Below w.heap.size w w' → Calls Tryz.prog 16 #[.slice (some ⟨b, o, none⟩) t.length cap, .int .i64 ((plA t (p + 1) i : Nat) : Int)] w' fun e w'' => e = .returned (.string ⟨(prF t f (plA t (p + 1) i)).toArray⟩) ∧ Below w'.heap.size w' w'') := Lib.hid (fun i hi w' hb => by
    obtain ⟨k1, k2, k3⟩ := hT.kid hi
    exact ih _ k1 (by omega) w' (hN.keep hb) (C.keep hb) (T.keep hb))
  have HPl : Hid (∀ i, i < cnO (opA t p) → (plL t p (cnO (opA t p))).getD i 0 = ((plA t (p + 1) i : Nat) : Int)) := Lib.hid (fun i hi => by
    unfold plL uptoT
    rw [List.getD_eq_getElem?_getD, List.getElem?_map, List.getElem?_range hi]; rfl)
  have hpl := plL_len t p (cnO (opA t p))
  have hcn := cn_le (opA t p)
  generalize prF t (f + 1) p = R at *
  generalize cnO (opA t p) = c at *
  generalize plL t p c = PL at *
  obtain ⟨g, hg⟩ : ∃ g : Nat → List UInt8, g = fun i => prF t f (plA t (p + 1) i) := ⟨_, rfl⟩
  have hg' : ∀ i, prF t f (plA t (p + 1) i) = g i := fun i => by rw [hg]
  rw [← hg] at HPr
  simp only [hg'] at HKid
  generalize hq : (fun i => plA t (p + 1) i) = q at *
  have hq' : ∀ i, plA t (p + 1) i = q i := fun i => by rw [← hq]
  simp only [hq'] at HKid HPl
  have hV : ndV (t.getD p default) = #[.int .i64 (t.getD p default).op, .int .i64 (t.getD p default).a, .int .i64 (t.getD p default).b, .int .i64 (t.getD p default).num, .int .i64 (t.getD p default).den] := rfl
  rw [hV] at HHd
  generalize hdX (t.getD p default) = X at *
  generalize t.getD p default = nd at *
  have i0 : (0 : Int) ≤ (p : Int) := by omega
  have i1 : (p : Int) < (t.length : Int) := by omega
  have i2 : (p : Int) ≤ 1000 := by omega
  have hRl : R.length ≤ 4480 := by omega
  clear hN C T hokp hq hq' hg hg' ih hok hT hbd hlen hV
  go_enter Tryz.func16, Tryz.ntmps16
  go_wp2_with fail
  refine HHd.out.mono ?_
  rintro e w1 ⟨rfl, hb1⟩
  have HB1 := Lib.hid hb1
  clear n0 n1 n2 n3 n4
  go_wp2_with fail
  refine (HBl.out _ hb1).mono ?_
  rintro e w2 ⟨v, rfl, hv, hb2⟩
  have HB2 := Lib.hid (onB HB1.out hb2)
  have HV := Lib.hid (own_base hv HB1.out.size)
  obtain ⟨va, vc, rfl⟩ := Own.sliceI hv
  rw [hpl] at HV ⊢
  clear hb1 hb2 hv
  by_cases hc : c = 0
  · have HR : Hid (R = X) := Lib.hid (by rw [HPr.out, if_pos hc, List.append_nil])
    subst hc
    go_wp2_with fail
    go_ret
    rw [HR.out]
    exact ⟨rfl, HB2.out⟩
  · have hc1 : ((c : Int) == 0) = false := by simp; omega
    have HR : Hid (R = X ++ (40 :: Lib.join (uptoT g c) [44, 32] ++ [41])) := Lib.hid (by rw [HPr.out, if_neg hc])
    have HCn := Lib.hid hc
    obtain ⟨vg, hrd⟩ : ∃ vg, va = some ⟨vg, 0, none⟩ ∧ w.heap.size ≤ vg := by
      rcases HV.out.2 with ⟨e, h0⟩ | ⟨g', cap', cur, e, hb, _⟩
      · rw [hpl] at h0; exact absurd h0 hc
      · injection e with e1 e2 e3
        exact ⟨g', e1, hb⟩
    obtain ⟨rfl, hvg⟩ := hrd
    clear hc
    go_wp2_with fail
    go_loopw [8, 28] (fun vb vi wx => ∃ i : Nat, i ≤ c ∧ vi = .int .i64 i ∧ OwnT wx w.heap.size vb (uptoT g i) ∧ YtdmdgoeacafpiaaGreatDoor.Own wx w.heap.size (.slice (some ⟨vg, 0, none⟩) c vc) PL ∧ (∀ k, vb.ownBlock = some k → k ≠ vg) ∧ Below w.heap.size w wx) (fun _ vi _ => c - (RowKit.intOf vi).toNat)
    case atStart => exact ⟨0, Nat.zero_le _, rfl, OwnT.nil _ _, HV.out, fun k hk => (by cases hk), HB2.out⟩
    case round =>
      obtain ⟨i, hi, rfl, hot, hop, hne, hb⟩ := hrel
      have HO := Lib.hid hot
      have HP := Lib.hid hop
      have HNe := Lib.hid hne
      have HB := Lib.hid hb
      obtain ⟨ba, bc, rfl⟩ := own_slice hot
      rw [uptoT_length] at HO HNe ⊢
      by_cases hlt : i < c
      · have hcl : wr.cell? ⟨vg, i, none⟩ = some (.int .i64 ((q i : Nat) : Int)) := by
          have := (World.ownsRow.cellAt (by have := hop; unfold YtdmdgoeacafpiaaGreatDoor.Own at this; rw [hpl] at this; exact this) i (by omega))
          rw [this, List.getElem?_map, List.getElem?_eq_getElem (by omega)]
          have h2 := HPl.out i hlt
          rw [List.getD_eq_getElem?_getD, List.getElem?_eq_getElem (by omega)] at h2
          simp at h2
          simp [h2]
        have HKd := Lib.hid (HKid.out i hlt wr hb)
        have HS : Hid (uptoT g (i + 1) = uptoT g i ++ [g i]) := Lib.hid (uptoT_succ g i)
        have HL : Hid ((uptoT g i).length = i) := Lib.hid (uptoT_length g i)
        have j0 : (0 : Int) ≤ (i : Int) := by omega
        have j1 : (i : Int) < (c : Int) := by omega
        have hvgl := (World.ownsRow.lt hop vg rfl).2
        generalize q i = qi at *
        generalize g i = gi at *
        generalize uptoT g i = Ui at *
        clear hot hop hne hb
        go_wp2_with fail
        refine HKd.out.mono ?_
        rintro e w3 ⟨rfl, hb3⟩
        have HB3 := Lib.hid (onB HB.out hb3)
        have HO3 := Lib.hid (HO.out.grown hb3)
        have HP3 := Lib.hid (Own.kept HP.out (grown_none hb3) own_ne_none)
        have hw3 : w.heap.size ≤ w3.heap.size := HB3.out.size
        have hv3 : vg < w3.heap.size := Nat.lt_of_lt_of_le hvgl hb3.size
        clear hb3 hcl
        go_wp2_with (at_builtin; refine wpList_append_text rfl _ _ rfl w.heap.size _ Ui rfl (HO3.out.grown (newB _ _)) ⟨w3.heap.size, 0, none⟩ gi rfl (by rw [Go.WideShapes.add_plain, World.cell?_alloc_at _ _ _ _ rfl]; rfl) (by have := HL.out; omega) (by simp; omega) ?_; intro vb' w4 ho hgr hat; have HO4 := Lib.hid ho; have HB4 := Lib.hid (below_own (onB HB3.out (newB _ _)) (HO3.out.grown (newB _ _)) (Nat.le_refl _) (by simp; omega) hgr); have HP4 := Lib.hid (Own.kept (Own.kept HP3.out (grown_none (newB w3 (.cells #[.string ⟨gi.toArray⟩] 9))) own_ne_none) hgr (.inr (fun e => HNe.out vg e.symm rfl))); have HN4 : Hid (∀ k, vb'.ownBlock = some k → k ≠ vg) := Lib.hid (fun k hk => by rcases hat with e | e; exact HNe.out k (e.symm.trans hk); rw [e] at hk; injection hk with hk; rw [World.size_alloc] at hk; omega); clear ho hgr hat)
        go_roundw
        case rel => exact ⟨i + 1, by omega, by go_num, by rw [HS.out]; exact HO4.out, HP4.out, HN4.out, HB4.out⟩
        case measure => simp [RowKit.intOf]; omega
      · obtain rfl : i = c := by omega
        have hjl : (Lib.join (uptoT g i) [44, 32]).length + X.length + 2 ≤ 4480 := by
          have := HR.out
          have h2 := congrArg List.length this
          simp at h2
          omega
        have HJ := Lib.hid (fun (w' : World) (ho : OwnT w' w.heap.size (.slice ba i bc) (uptoT g i)) => join_own ho (fun e => HCn.out (by have := congrArg List.length e; rw [uptoT_length] at this; exact this)) (by rw [uptoT_length]; omega) (by omega))
        generalize Lib.join (uptoT g i) [44, 32] = J at *
        have l1 : ¬ 9223372036854775807 < X.length + 1 := by omega
        have l2 : ¬ 9223372036854775807 < X.length + 1 + J.length := by omega
        have l3 : ¬ 9223372036854775807 < X.length + 1 + J.length + 1 := by omega
        clear hot hop hne hb hlt
        go_wp2_with fail
        refine (HJ.out _ HO.out).mono ?_
        rintro e w3 ⟨rfl, hb3⟩
        have HB3 := Lib.hid (onB HB.out hb3)
        clear hb3
        go_wp2_with fail
        go_ret
        exact ⟨by rw [HR.out]; simp [ByteArray.mk_append_mk], HB3.out⟩

theorem written_any (t : List Nd) (hL : t.length ≤ 64) (hok : ∀ p, p < t.length → okN (t.getD p default)) (b o cap : Nat) (hcap : t.length ≤ cap) (hcm : cap ≤ 9223372036854775807) : ∀ f p, TmA t p → szA t p ≤ f → ∀ w, NdA w b o t → KndW w → TbP w →
    Calls Tryz.prog 16 #[.slice (some ⟨b, o, none⟩) t.length cap, .int .i64 p] w fun e w' => e = .returned (.string ⟨(prF t f p).toArray⟩) ∧ Below w.heap.size w w'
  | 0, p, hT, hf, _, _, _, _ => absurd hT.bd.1 (by omega)
  | f + 1, p, hT, hf, w, hN, C, T => written_step t hL hok b o cap hcap hcm f (fun p hT hf w hN C T => written_any t hL hok b o cap hcap hcm f p hT hf w hN C T) p hT hf w hN C T

end Go.Proofs.YtdmdgoeacafpiaaGreatDoor
