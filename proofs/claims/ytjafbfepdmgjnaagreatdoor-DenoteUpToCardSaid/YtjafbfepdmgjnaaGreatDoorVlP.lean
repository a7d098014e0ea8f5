/-
  Package value: some facts alone, those of a number's keys at a day; and what stays as a map grows.
-/
import Derived.Test.YtjafbfepdmgjnaaGreatDoorVlO
import Derived.Test.YtjafbfepdmgjnaaGreatDoorVlI
namespace Go.Proofs.YtjafbfepdmgjnaaGreatDoor
open Go.RowKit Go.Lib Go.Shelf Go.Maps
set_option linter.unusedVariables false
set_option linter.unusedSimpArgs false

theorem gt_in {l : List Fct} (hs : Srt l) {t : Fct} (ht : t ∈ l) : gtL l t.k t.d = (t.x, t.y, true) := by
  rcases gtL_cases l t.k t.d with ⟨u, hu, e1, e2, e⟩ | ⟨h0, _⟩
  · have := srt_one hs hu ht e1 e2
    subst this; exact e
  · have := List.find?_eq_none.1 h0 t ht
    exact absurd (isG_iffE.2 ⟨rfl, rfl⟩) this
theorem gt_putS {l : List Fct} (hs : Srt l) (x : Fct) (k d : Int) : gtL (putL l x) k d = if k = x.k ∧ d = x.d then (x.x, x.y, true) else gtL l k d := by
  by_cases h : k = x.k ∧ d = x.d
  · obtain ⟨rfl, rfl⟩ := h
    rw [if_pos ⟨rfl, rfl⟩]
    exact gt_in (srt_put x hs) (mem_put.2 (.inl rfl))
  · rw [if_neg h]
    rcases gtL_cases l k d with ⟨t, ht, e1, e2, e⟩ | ⟨h0, e⟩
    · have hm : t ∈ putL l x := mem_put.2 (.inr ⟨ht, neB_iff.2 (fun hc => h ⟨by rw [← e1, hc.1], by rw [← e2, hc.2]⟩)⟩)
      have := gt_in (srt_put x hs) hm
      rw [e1, e2] at this
      rw [this, e]
    · rw [e]
      rcases gtL_cases (putL l x) k d with ⟨u, hu, f1, f2, f⟩ | ⟨_, f⟩
      · rcases mem_put.1 hu with rfl | ⟨hu, _⟩
        · exact absurd ⟨f1.symm, f2.symm⟩ h
        · have := List.find?_eq_none.1 h0 u hu
          exact absurd (isG_iffE.2 ⟨f1, f2⟩) this
      · exact f
/-- Every fixing that is known may be. -/
def FixL (l : List Fct) : Prop := ∀ t ∈ l, fixE t.k t.d t.x t.y = 0
theorem plF_fix (L : List Tol) : FixL (plF L) := by
  have key : ∀ (L : List Tol) (a : List Fct), FixL a → FixL (L.foldl (fun a t => if t.c = true then a else if tolE t = 0 then putL a ⟨t.k, t.d, t.x, t.y, 0⟩ else a) a) := by
    intro L
    induction L with
    | nil => exact fun a h => h
    | cons x L ih =>
      intro a h
      rw [List.foldl_cons]
      refine ih _ ?_
      by_cases hc : x.c = true
      · rw [if_pos hc]; exact h
      · rw [if_neg hc]
        by_cases he : tolE x = 0
        · rw [if_pos he]
          intro t ht
          rcases mem_put.1 ht with rfl | ⟨ht, _⟩
          · unfold tolE at he
            rw [if_neg hc] at he
            exact he
          · exact h t ht
        · rw [if_neg he]; exact h
  exact key L [] (fun t h => by cases h)
/-- The facts of some keys at a day alone. -/
def smS (lf : List Fct) (day : Int) (a : List Fct) (k : Int) : List Fct := if (gtL lf k day).2.2 = true then putL a ⟨k, day, (gtL lf k day).1, (gtL lf k day).2.1, 0⟩ else a
def smL (lf : List Fct) (day : Int) (ks : List Int) : List Fct := ks.foldl (smS lf day) []
theorem smL_snoc (lf : List Fct) (day : Int) (ks : List Int) (k : Int) : smL lf day (ks ++ [k]) = smS lf day (smL lf day ks) k := by unfold smL; rw [List.foldl_append]; rfl
theorem smS_srt {lf a : List Fct} (h : Srt a) (day k : Int) : Srt (smS lf day a k) := by
  unfold smS
  split
  · exact srt_put _ h
  · exact h
theorem smS_get {lf a : List Fct} (h : Srt a) (day k j : Int) (ha : gtL a k day = (0, 0, false)) : gtL (smS lf day a k) j day = if j = k then gtL lf k day else gtL a j day := by
  unfold smS
  by_cases hk : (gtL lf k day).2.2 = true
  · rw [if_pos hk, gt_putS h]
    by_cases c : j = k
    · rw [if_pos ⟨c, rfl⟩, if_pos c]
      rw [← hk]
    · rw [if_neg (fun h => c h.1), if_neg c]
  · rw [if_neg hk]
    by_cases c : j = k
    · rw [if_pos c, c, ha]
      have hf : (gtL lf k day).2.2 = false := by simpa using hk
      obtain ⟨g1, g2⟩ := gt_no hf
      rw [← g1, ← hf]
      generalize gtL lf k day = G at *
      obtain ⟨a, b, c⟩ := G
      dsimp only at *
      subst g1 g2
      rfl
    · rw [if_neg c]
theorem gtL_nil (k d : Int) : gtL [] k d = (0, 0, false) := rfl
theorem smF_get (lf : List Fct) (day : Int) : ∀ (ks : List Int) (a : List Fct), Srt a → (∀ k ∈ ks, gtL a k day = (0, 0, false)) → ks.Nodup → Srt (ks.foldl (smS lf day) a) ∧ ∀ j, gtL (ks.foldl (smS lf day) a) j day = if j ∈ ks then gtL lf j day else gtL a j day
  | [], a, ha, _, _ => ⟨ha, fun j => by rw [if_neg (by simp)]; rfl⟩
  | k :: ks, a, ha, hn, hd => by
    have hd' := List.nodup_cons.1 hd
    have hk := hn k (by simp)
    have hstep : ∀ j, gtL (smS lf day a k) j day = if j = k then gtL lf k day else gtL a j day := fun j => smS_get ha day k j hk
    obtain ⟨h1, h2⟩ := smF_get lf day ks (smS lf day a k) (smS_srt ha _ _) (fun j hj => by
      have hne : j ≠ k := fun e => hd'.1 (by rw [← e]; exact hj)
      rw [hstep, if_neg hne]; exact hn j (by simp [hj])) hd'.2
    rw [List.foldl_cons]
    refine ⟨h1, fun j => ?_⟩
    rw [h2]
    by_cases c : j ∈ ks
    · rw [if_pos c, if_pos (by simp [c])]
    · rw [if_neg c, hstep]
      by_cases c2 : j = k
      · subst c2; rw [if_pos rfl, if_pos (by simp)]
      · rw [if_neg c2, if_neg (by simp [c, c2])]
theorem smL_get (lf : List Fct) (day : Int) (ks : List Int) (hn : ks.Nodup) : Srt (smL lf day ks) ∧ ∀ j, gtL (smL lf day ks) j day = if j ∈ ks then gtL lf j day else (0, 0, false) :=
  smF_get lf day ks [] List.Pairwise.nil (fun _ _ => rfl) hn
/-- Whether all of some keys are known. -/
def allN (lf : List Fct) (day : Int) (ks : List Int) : Bool := ks.all fun k => (gtL lf k day).2.2
theorem allN_snoc (lf : List Fct) (day : Int) (ks : List Int) (k : Int) : allN lf day (ks ++ [k]) = (allN lf day ks && (gtL lf k day).2.2) := by unfold allN; simp
/-- A number's keys. -/
noncomputable def kyU (t : List Nd) (n : Nat) : List Int := kyN (subT t n (szA t n)) (pT 2 2) 64
theorem kyU_in {t : List Nd} {n : Nat} (h0 : (ofK t).2 = 0) (hN : NmA t n) {q : Nat} (h1 : n ≤ q) (h2 : q < n + szA t n) (ho : opA t q = 2) : (t.getD q default).a ∈ kyU t n := by
  obtain ⟨r, rfl⟩ : ∃ r, q = n + r := ⟨q - n, by omega⟩
  have hb := hN.tm.bd
  have hr : r < szA t n := by omega
  have e1 := subT_op (n := szA t n) hb.2 hr
  have e2 := subT_get (n := szA t n) hb.2 hr
  have hf := fld_key (ofK_zero h0).2.2.1 (show n + r < t.length by omega) (.inl ho)
  unfold aA at hf
  obtain ⟨m, hm⟩ : ∃ m : Nat, (t.getD (n + r) default).a = (m : Int) := ⟨((t.getD (n + r) default).a).toNat, by omega⟩
  unfold kyU
  rw [kyN_mem]
  refine ⟨m, by omega, hm, ?_⟩
  rw [isN_iff]
  refine ⟨r, by rw [subT_len hb.2]; exact hr, ?_, ?_⟩
  · rw [e1, ho]; rfl
  · show ((subT t n (szA t n)).getD r default).a = (m : Int)
    rw [e2, hm]
theorem kyU_nd (t : List Nd) (n : Nat) : (kyU t n).Nodup := by
  unfold kyU
  have := kyN_lt (subT t n (szA t n)) (pT 2 2) 64
  exact List.Pairwise.imp (fun h => Int.ne_of_lt h) this
/-- By the facts of its keys alone a number is what it is. -/
theorem needs_eq {t : List Nd} {p : Int} {lf : List Fct} (day : Int) (h : wrN t p = 0) : atE t (smL lf day (kyU t p.toNat)) p day = atE t lf p day ∧ atV t (smL lf day (kyU t p.toNat)) p day = atV t lf p day ∧
    (atE t lf p day = 0 → allN lf day (kyU t p.toNat) = true → vB (atV t lf p day) = true) := by
  obtain ⟨z1, n, rfl, hn, hm⟩ := wrN_zero h
  have hN := (num_at z1 hn hm).1
  rw [Int.toNat_natCast]
  obtain ⟨_, hg⟩ := smL_get lf day (kyU t n) (kyU_nd t n)
  have hx : vlA t (fxL (smL lf day (kyU t n)) day) n = vlA t (fxL lf day) n := vl_ext (szA t n) n (Nat.le_refl _) hN (fun q h1 h2 ho => by
    unfold fxL
    rw [hg, if_pos (kyU_in z1 hN h1 h2 ho)])
  unfold atE atV
  rw [h]
  repeat rw [if_neg (show ¬ (0 : Int) ≠ 0 by decide)]
  rw [Int.toNat_natCast, hx]
  refine ⟨rfl, rfl, fun he ha => ?_⟩
  by_cases hd : day < 0 ∨ 73048 < day
  · rw [if_pos hd] at he; cases he
  · rw [if_neg hd] at he ⊢
    have hk := vl_all (fx := fxL lf day) (szA t n) n (Nat.le_refl _) hN (fun q h1 h2 ho => by
      have := List.all_eq_true.1 ha _ (kyU_in z1 hN h1 h2 ho)
      exact ⟨_, by unfold fxL; rw [if_pos (by simpa using this)]⟩)
    match h1 : vlA t (fxL lf day) n with
    | none => rw [h1] at he; cases he
    | some none => exact absurd h1 hk
    | some (some r) => rfl

/-- A row that is a map's. -/
def IsMp (w : World) (row : Option Nat) : Prop := ∀ r, row = some r → ∃ es c, w.heap[r]? = some (.map es c)
theorem mp_ne {w : World} {row : Option Nat} (h : IsMp w row) {b i : Nat} {v : Value} (hc : w.cell? ⟨b, i, none⟩ = some v) : some b ≠ row := fun e => by
  obtain ⟨es, c, hm⟩ := h b e.symm
  simp [World.cell?, hm] at hc
theorem cell_mpk {w w' : World} {row : Option Nat} (h : IsMp w row) (hg : w.grownBy w' row) {b i : Nat} {v : Value} (hc : w.cell? ⟨b, i, none⟩ = some v) : w'.cell? ⟨b, i, none⟩ = some v := (World.cell?_of_block (hg.block b (ltF hc) (mp_ne h hc))).trans hc
theorem own_mp {w : World} {k : TypeId} {R : Value → Option (DataW Unit × List MemPlace)} {b n : Nat} {D : DataW Unit} (h : w.ownsMap Tryz.prog k R b n D) : ∃ es c, w.heap[b]? = some (.map es c) := by
  obtain ⟨es, c, hb, _⟩ := h
  exact ⟨es, c, hb⟩
theorem FacM.isMp {w : World} {B bf bc n : Nat} {Df Dc : DataW Unit} (h : FacM w B bf bc n Df Dc) {row : Option Nat} (hr : row = some bf ∨ row = some bc) : IsMp w row := fun r e => by
  rcases hr with h1 | h1
  · rw [h1] at e; injection e with e; subst e; exact own_mp h.hf
  · rw [h1] at e; injection e with e; subst e; exact own_mp h.hc
theorem FacM.mpk {w w' : World} {B bf bc n : Nat} {Df Dc : DataW Unit} (h : FacM w B bf bc n Df Dc) {row : Option Nat} (hm : IsMp w row) (hg : w.grownBy w' row) (h1 : some bf ≠ row) (h2 : some bc ≠ row) : FacM w' B bf bc n Df Dc := h.grown hg (mp_ne hm h.c0) h1 h2
theorem Own.mpk {w w' : World} {base : Nat} {v : Value} {l : List Int} (h : YtjafbfepdmgjnaaGreatDoor.Own w base v l) {row : Option Nat} (hm : IsMp w row) (hg : w.grownBy w' row) : YtjafbfepdmgjnaaGreatDoor.Own w' base v l := by
  cases hv : v.ownBlock with
  | none => exact Own.kept h hg (.inl hv)
  | some k =>
    refine Own.kept h hg (.inr fun e => ?_)
    obtain ⟨es, c, hk⟩ := hm k (by rw [← e, hv])
    rcases h.2 with ⟨rfl, _⟩ | ⟨g, cap, cur, rfl, hb, hc, _⟩
    · cases hv
    · simp [Value.ownBlock] at hv
      subst hv
      rw [hk] at hc; cases hc
/-- Facts, some of them told to others, and the keys. -/
structure NeeS (w0 w wx : World) (Z B1 f1 c1 B2 f2 c2 n1 : Nat) (Df Dc : DataW Unit) (lf : List Fct) (p day : Int) (kv : Value) (base : Nat) (ks : List Int) (i : Nat) : Prop where
  m1 : FacM wx B1 f1 c1 n1 Df Dc
  m2 : ∃ D Dc', FacM wx B2 f2 c2 i D Dc' ∧ RelV vR D (smL lf day (ks.take i))
  ky : YtjafbfepdmgjnaaGreatDoor.Own wx base kv ks
  q0 : wx.cell? ⟨Z, 0, none⟩ = some (.int .i64 p)
  q1 : wx.cell? ⟨Z, 1, none⟩ = some (.int .i64 day)
  bel : Below w0.heap.size w wx
theorem NeeS.keep {w0 w wx wy : World} {Z B1 f1 c1 B2 f2 c2 n1 : Nat} {Df Dc : DataW Unit} {lf : List Fct} {p day : Int} {kv : Value} {base : Nat} {ks : List Int} {i : Nat} (h : NeeS w0 w wx Z B1 f1 c1 B2 f2 c2 n1 Df Dc lf p day kv base ks i) (hb : Below wx.heap.size wx wy) (hz : w0.heap.size ≤ wx.heap.size) : NeeS w0 w wy Z B1 f1 c1 B2 f2 c2 n1 Df Dc lf p day kv base ks i := by
  obtain ⟨D, Dc', h1, h2⟩ := h.m2
  exact ⟨h.m1.keep hb, ⟨D, Dc', h1.keep hb, h2⟩, h.ky.grown hb, keepF hb h.q0, keepF hb h.q1, h.bel.trans (hb.mono hz)⟩
theorem NeeS.up {w0 w wx : World} {Z B1 f1 c1 B2 f2 c2 n1 : Nat} {Df Dc : DataW Unit} {lf : List Fct} {p day : Int} {kv : Value} {base : Nat} {ks : List Int} {i : Nat} (h : NeeS w0 w wx Z B1 f1 c1 B2 f2 c2 n1 Df Dc lf p day kv base ks i) (hi : i < ks.length) (hk : (gtL lf (ks.getD i 0) day).2.2 = false) : NeeS w0 w wx Z B1 f1 c1 B2 f2 c2 n1 Df Dc lf p day kv base ks (i + 1) := by
  obtain ⟨D, Dc', h1, h2⟩ := h.m2
  refine ⟨h.m1, ⟨D, Dc', h1.mono (by omega), ?_⟩, h.ky, h.q0, h.q1, h.bel⟩
  have e : ks.take (i + 1) = ks.take i ++ [ks.getD i 0] := by
    rw [List.take_add_one, List.getElem?_eq_getElem hi, List.getD_eq_getElem?_getD, List.getElem?_eq_getElem hi]; rfl
  rw [e, smL_snoc]
  unfold smS
  rw [hk, if_neg (by decide)]
  exact h2
theorem NeeS.fix {w0 w wx wy : World} {Z B1 f1 c1 B2 f2 c2 n1 : Nat} {Df Dc : DataW Unit} {lf : List Fct} {p day : Int} {kv : Value} {base : Nat} {ks : List Int} {i : Nat} (h : NeeS w0 w wx Z B1 f1 c1 B2 f2 c2 n1 Df Dc lf p day kv base ks i) (hi : i < ks.length) (hk : (gtL lf (ks.getD i 0) day).2.2 = true) (hki : I64 (ks.getD i 0)) (hdi : I64 day)
    (hne : f1 ≠ f2 ∧ c1 ≠ f2) (hz : w0.heap.size ≤ f2)
    {D' Dc2 : DataW Unit} (hm : FacM wy B2 f2 c2 (i + 1) D' Dc2) (hD : ∃ D, RelV vR D (smL lf day (ks.take i)) ∧ D' = D.put (plk (ks.getD i 0) day) (ratD (gtL lf (ks.getD i 0) day).1 (gtL lf (ks.getD i 0) day).2.1)) (hg : wx.grownBy wy (some f2)) : NeeS w0 w wy Z B1 f1 c1 B2 f2 c2 n1 Df Dc lf p day kv base ks (i + 1) := by
  obtain ⟨D0, Dc0, h1, h2⟩ := h.m2
  have hp := h1.isMp (row := some f2) (.inl rfl)
  obtain ⟨D, hr, rfl⟩ := hD
  refine ⟨h.m1.mpk hp hg (fun e => hne.1 (by injection e)) (fun e => hne.2 (by injection e)), ⟨_, _, hm, ?_⟩, h.ky.mpk hp hg, cell_mpk hp hg h.q0, cell_mpk hp hg h.q1, h.bel.grown hg ?_ (fun k hk => by injection hk with hk; omega)⟩
  · have e : ks.take (i + 1) = ks.take i ++ [ks.getD i 0] := by
      rw [List.take_add_one, List.getElem?_eq_getElem hi, List.getD_eq_getElem?_getD, List.getElem?_eq_getElem hi]; rfl
    rw [e, smL_snoc]
    unfold smS
    rw [if_pos hk]
    exact hr.put ⟨ks.getD i 0, day, (gtL lf (ks.getD i 0) day).1, (gtL lf (ks.getD i 0) day).2.1, 0⟩ hki hdi
  · have := h1.hf.lt; omega

end Go.Proofs.YtjafbfepdmgjnaaGreatDoor
