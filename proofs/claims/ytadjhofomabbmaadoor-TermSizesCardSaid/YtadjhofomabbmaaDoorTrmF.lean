/-
  Package term: depth: what it answers.
-/
import Derived.Test.YtadjhofomabbmaaDoorTrmE
import Derived.RegionIn
import Derived.Shelf.RegionOpen
namespace Go.Proofs.YtadjhofomabbmaaDoor
open Go.RowKit Go.Lib Go.Shelf
set_option linter.unusedVariables false
attribute [local go_sem] Oper.semAt_some

/-- The greatest of a row of numbers; 0 of none. -/
def mxL (l : List Nat) : Nat := l.foldl max 0
theorem mxL_snoc (l : List Nat) (x : Nat) : mxL (l ++ [x]) = max (mxL l) x := by simp [mxL]
theorem mxL_upto (g : Nat → Nat) : ∀ k, mxL (uptoT g k) = mxN g k
  | 0 => rfl
  | k + 1 => by rw [uptoT_succ, mxL_snoc, mxL_upto g k, mxN]
theorem mxL_le {l : List Nat} {b : Nat} (h : ∀ x ∈ l, x ≤ b) : mxL l ≤ b := by
  unfold mxL
  suffices h2 : ∀ (l : List Nat) (a : Nat), a ≤ b → (∀ x ∈ l, x ≤ b) → l.foldl max a ≤ b from h2 l 0 (Nat.zero_le _) h
  intro l
  induction l with
  | nil => intro a ha _; exact ha
  | cons x l ih => intro a ha hl; exact ih _ (Nat.max_le.2 ⟨ha, hl x (by simp)⟩) (fun y hy => hl y (by simp [hy]))
theorem dpF_bd {t : List Nd} : ∀ f p, dpF t f p ≤ f
  | 0, _ => Nat.le_refl _
  | f + 1, p => by
    rw [dpF]
    have := mxN_le (g := fun i => dpF t f (plA t (p + 1) i)) (b := f) (cnO (opA t p)) (fun i _ => dpF_bd f _)
    omega

theorem undrewT {w w' : World} (h : Below w.drew.heap.size w.drew w') : Below w.heap.size w w' := ⟨h.os, h.tape, h.output, h.size, h.block⟩
theorem othersT {W W' : World} (h : Below W.heap.size W W') : KeepsOthers W W' := KeepsOthers.of_grownBy (grownT h) (fun j o e => by cases e)
theorem KpT.set {n₀ Bs B : Nat} {W : World} (h1 : n₀ ≤ B) (h2 : B ≠ Bs) (v : Value) : KpT n₀ Bs W (W.setCell ⟨B, 0, none⟩ v) :=
  ⟨(Below.refl n₀ W).setCell (p := ⟨B, 0, none⟩) h1 v, fun u hu => (cell_other (fun e => h2 (congrArg Addr.block e))).trans hu⟩
theorem boxB {W W' : World} {B : Nat} {t : TypeId} {v : Value} (hb : Below W.heap.size W W') (h : Boxed W B t v) : Boxed W' B t v := (hb.block B h.lt).trans h
set_option maxRecDepth 100000 in
set_option maxHeartbeats 8000000 in
theorem depth_step (t : List Nd) (hL : t.length ≤ 1000) (b o cap : Nat) (hcap : t.length ≤ cap) (hcm : cap ≤ 9223372036854775807) (f : Nat) (hf : f ≤ 1000)
    (ih : ∀ p, TmA t p → szA t p ≤ f → ∀ w, NdA w b o t → KndW w → Calls Tryd.prog 45 #[.slice (some ⟨b, o, none⟩) t.length cap, .int .i64 p] w fun e w' => e = .returned (.int .i64 (dpF t f p)) ∧ Below w.heap.size w w')
    (p : Nat) (hT : TmA t p) (hsz : szA t p ≤ f + 1) (w : World) (hN : NdA w b o t) (C : KndW w) :
    Calls Tryd.prog 45 #[.slice (some ⟨b, o, none⟩) t.length cap, .int .i64 p] w fun e w' => e = .returned (.int .i64 (dpF t (f + 1) p)) ∧ Below w.heap.size w w' := by
  have hp := hT.lt
  have HN := Lib.hid hN
  have HC := Lib.hid C
  have HT := Lib.hid hT
  have hcn := cn_le (opA t p)
  obtain ⟨c, hc⟩ : ∃ c, c = cnO (opA t p) := ⟨_, rfl⟩
  have HR : Hid (dpF t (f + 1) p = mxN (fun i => dpF t f (plA t (p + 1) i)) c + 1) := Lib.hid (by rw [dpF, hc])
  rw [← hc] at hcn
  have HKid : Hid (∀ x : Fin c, ∀ w, NdA w b o t → KndW w → Calls Tryd.prog 45 #[.slice (some ⟨b, o, none⟩) t.length cap, .int .i64 ((plA t (p + 1) x.1 : Nat) : Int)] w fun e w' => e = .returned (.int .i64 (dpF t f (plA t (p + 1) x.1))) ∧ Below w.heap.size w w') := Lib.hid (fun x w hN C => by
    obtain ⟨k1, k2, k3⟩ := hT.kid (i := x.1) (by rw [← hc]; exact x.2)
    exact ih _ k1 (by omega) w hN C)
  have HMk := Lib.hid (fun w => below_make (some ⟨b, o, none⟩) t.length cap p w)
  have hb0 : b < w.heap.size := ltT (hN p hp).c0
  have hk0 : 1 < w.heap.size := ltT (C.c0 0 (by omega))
  obtain ⟨r, hr⟩ : ∃ r, r = dpF t (f + 1) p := ⟨_, rfl⟩
  rw [← hr] at HR ⊢
  clear hN C hT ih hsz hr
  obtain ⟨n, hn⟩ : ∃ n : Nat, 4 ≤ n := ⟨4, by omega⟩
  have h1 : 1 ≤ n := by omega
  refine callsIn_wide.1 (callsIn_of_wp_marks (n := n) Tryd.func45 rfl trivial ?_ rfl)
  simp only [Tryd.ntmps45, List.size_toArray, List.length_cons, List.length_nil, Nat.reduceAdd, Nat.reduceSub, Array.replicate_succ, Array.replicate_zero, List.push_toArray, List.append_toArray, List.nil_append, List.cons_append]
  gi_wp2
  refine wide_in2 (HMk.out _) ?_
  rintro e w2 ⟨rfl, rfl⟩
  gi_wp2
  obtain ⟨sv, hsv⟩ : ∃ sv, sv = Value.slice (some ⟨b, o, none⟩) t.length cap := ⟨_, rfl⟩
  have HS := Lib.hid hsv
  obtain ⟨wa, hwa⟩ : ∃ wa, wa = w.alloc (.cells #[sv] 37) := ⟨_, rfl⟩
  obtain ⟨wb, hwb⟩ : ∃ wb, wb = wa.alloc (.cells #[.int .i64 0] 3) := ⟨_, rfl⟩
  obtain ⟨wc, hwc⟩ : ∃ wc, wc = wb.alloc (.cells #[sv] 37) := ⟨_, rfl⟩
  obtain ⟨W0, hW0⟩ : ∃ W0, W0 = wc.alloc (.cells #[.int .i64 (p : Int)] 3) := ⟨_, rfl⟩
  rw [← hsv, ← hwa, ← hwb, ← hwc, ← hW0]
  have za : wa.heap.size = w.heap.size + 1 := by rw [hwa]; simp
  have zb : wb.heap.size = w.heap.size + 2 := by rw [hwb]; simp [za]
  have zc : wc.heap.size = w.heap.size + 3 := by rw [hwc]; simp [zb]
  have zW : W0.heap.size = w.heap.size + 4 := by rw [hW0]; simp [zc]
  have bT : Boxed W0 w.heap.size 37 sv := by
    have := Boxed.new w 37 sv
    rw [← hwa] at this
    rw [hW0, hwc, hwb]
    exact ((this.alloc _).alloc _).alloc _
  have bD : Boxed W0 (w.heap.size + 1) 3 (.int .i64 0) := by
    have := Boxed.new wa 3 (.int .i64 0)
    rw [← hwb, za] at this
    rw [hW0, hwc]
    exact (this.alloc _).alloc _
  have bS : Boxed W0 (w.heap.size + 2) 37 sv := by
    have := Boxed.new wb 37 sv
    rw [← hwc, zb] at this
    rw [hW0]
    exact this.alloc _
  have cP : W0.cell? ⟨w.heap.size + 3, 0, none⟩ = some (.int .i64 (p : Int)) := by
    rw [hW0, World.cell?_alloc_at _ _ _ _ zc.symm]; rfl
  have hBw : Below w.heap.size w W0 := by
    rw [hW0, hwc, hwb, hwa]; exact ((((Below.refl _ w).alloc (Nat.le_refl _) _).alloc (by simp) _).alloc (by simp; omega) _).alloc (by simp; omega) _
  clear hwa hwb hwc hW0 hsv
  refine wpIn_rangeFunc_ownG rfl h1 (gf := 55) (lb := #[.pointer (some ⟨w.heap.size + 1 + 1 + 1, 0, none⟩), .pointer (some ⟨w.heap.size + 1 + 1, 0, none⟩)]) rfl trivial (enters_of Tryd.func55 (by kernel_rfl) rfl)
    (below_stops (n - 1) (w.heap.size + 1 + 1 + 1) (w.heap.size + 1 + 1) w.heap.size t hL b o cap p hcap hcm hb0 HT.out c hc W0 cP (by rw [← HS.out]; exact bS.cell) (by omega) (HN.out.keep hBw) (HC.out.keep hBw) hk0) KpT.trans (fun W l o o' h hl hc _ => KpT.put (s := W0.heap.size) (by omega) W l o o' h hl hc) (Below.refl _ _) (fun _ => rfl)
    (fun pre W => Boxed W (w.heap.size + 1) 3 (.int .i64 (mxL (pre.map fun x => dpF t f (plA t (p + 1) x.1)) : Nat)) ∧ Boxed W w.heap.size 37 sv ∧ Boxed W (w.heap.size + 2) 37 sv ∧ Below w.heap.size w W)
    (fun _ _ _ => False)
    (OwnFrom.and (Go.Own.from (boxed_own (w.heap.size + 1) 3 (fun pre : List (Fin c) => .int .i64 (mxL (pre.map fun x => dpF t f (plA t (p + 1) x.1)) : Nat))) _) (OwnFrom.and (Go.Own.from (boxed_own w.heap.size 37 (fun _ : List (Fin c) => sv)) _) (OwnFrom.and (Go.Own.from (boxed_own (w.heap.size + 2) 37 (fun _ : List (Fin c) => sv)) _) (ownFrom_below (Nat.le_refl _) (by omega)))))
    (fun _ _ _ _ _ hs _ _ => hs)
    ⟨bD, bT, bS, hBw⟩
    (fun x => { tmps := #[sv, .int .i64 p, .pointer (some ⟨w.heap.size, 0, none⟩), undef, .int .i64 0, .pointer (some ⟨w.heap.size + 1, 0, none⟩), undef, .int .i64 ((plA t (p + 1) x.1 : Nat) : Int), sv, .int .i64 p, .func (.func 55) #[] #[.pointer (some ⟨w.heap.size + 1 + 1 + 1, 0, none⟩), .pointer (some ⟨w.heap.size + 1 + 1, 0, none⟩)], .int .i64 (x.1 : Int), .int .i64 ((plA t (p + 1) x.1 : Nat) : Int), undef, undef, undef, undef, undef, undef, undef], defers := [] }) ?assign ?body ?done ?stop
  case assign =>
    intro l x W K hK
    dsimp only [encT]
    gi_wp2
    exact hK
  case body =>
    rintro l pre x W ⟨hD, hTb, hSb, hB⟩ hlt
    have hd : 1 ≤ n - 1 - 1 := by omega
    have hmx : Tryd.prog.follows .mixedOrders = true := by kernel_rfl
    have HCall : Hid (∀ W', Below w.heap.size w W' → Calls Tryd.prog 45 #[sv, .int .i64 ((plA t (p + 1) x.1 : Nat) : Int)] W' fun e w' => e = .returned (.int .i64 (dpF t f (plA t (p + 1) x.1))) ∧ Below W'.heap.size W' w') := Lib.hid (fun W' hb => by
      rw [HS.out]
      exact HKid.out x W' (HN.out.keep hb) (HC.out.keep hb))
    have hdb := dpF_bd (t := t) f (plA t (p + 1) x.1)
    have cD := hD.cell
    have fD := hD.frozen
    have cT := hTb.cell
    have HI := Lib.hid (And.intro hD (And.intro hTb (And.intro hSb hB)))
    obtain ⟨d, hdd⟩ : ∃ d, d = dpF t f (plA t (p + 1) x.1) := ⟨_, rfl⟩
    rw [← hdd] at HCall hdb
    have HDD := Lib.hid hdd
    obtain ⟨m, hm⟩ : ∃ m, m = mxL (pre.map fun x => dpF t f (plA t (p + 1) x.1)) := ⟨_, rfl⟩
    rw [← hm] at cD HI
    have HM := Lib.hid hm
    clear hdd hm hD hTb hSb hB
    gi_wp2
    gi_region_with_o (refine ⟨trivial, ?_⟩; gi_at_call 45; refine (CallsIn.inRound l (callsIn_wide.2 (HCall.out _ (by first | exact HI.out.2.2.2 | exact Below.drew HI.out.2.2.2)))).mono ?_; rintro e w' ⟨rfl, hbx⟩; have bD2 := boxB hbx (show Boxed _ (w.heap.size + 1) _ _ from HI.out.1); have cD2 := bD2.cell; have fD2 := bD2.frozen)
    all_goals
      have hbw : Below W.heap.size W w' := by first | exact undrewT hbx | exact hbx
      have hI := HI.out
      have hn0 : w.heap.size ≤ W.heap.size := hI.2.2.2.size
      refine ⟨((othersT hbw).trans (KeepsOthers.setCell _ _ _)).from _, (KpT.of hn0 hbw).trans (KpT.set (by omega) (by omega) _), ?_, (boxB hbw hI.2.1).other (by omega) _, (boxB hbw hI.2.2.1).other (by omega) _, (hI.2.2.2.trans (hbw.mono hn0)).setCell (p := ⟨w.heap.size + 1, 0, none⟩) (Nat.le_succ _) _⟩
      have := bD2.set (.int .i64 (max (m : Int) (d : Int)))
      rw [List.map_append, List.map_cons, List.map_nil, mxL_snoc, ← HM.out, ← HDD.out]
      rw [show ((max m d : Nat) : Int) = max (m : Int) (d : Int) by omega]
      exact this
  case done =>
    rintro D ys W hD rfl ⟨hD', hTb, hSb, hB⟩ hK
    have hc := hD'.cell
    have hmf := mxN_le (g := fun i => dpF t f (plA t (p + 1) i)) (b := f) c (fun i _ => dpF_bd f _)
    rw [upF_map c (fun i => dpF t f (plA t (p + 1) i)), mxL_upto] at hc
    have HRR := HR.out
    obtain ⟨m, hm⟩ : ∃ m, m = mxN (fun i => dpF t f (plA t (p + 1) i)) c := ⟨_, rfl⟩
    rw [← hm] at hc hmf HRR
    have q0 : (0 : Int) ≤ (m : Int) := by omega
    have q1 : (m : Int) ≤ 1000 := by omega
    clear hm hD'
    gi_wp2
    refine ⟨by simp, .inl ⟨_, _, rfl, run_takeDeferred hK, ?_⟩⟩
    exact ⟨_, results_tmp rfl _ _ _, by rw [HRR]; rfl, hB.trans (belowK_b (w := w) (Nat.le_refl _) W D _ _ (by omega) hK rfl rfl)⟩
  case stop =>
    rintro D c pre W _ _ h _
    exact h.elim

theorem depth_any (t : List Nd) (hL : t.length ≤ 1000) (b o cap : Nat) (hcap : t.length ≤ cap) (hcm : cap ≤ 9223372036854775807) : ∀ f, f ≤ 1001 → ∀ p, TmA t p → szA t p ≤ f → ∀ w, NdA w b o t → KndW w →
    Calls Tryd.prog 45 #[.slice (some ⟨b, o, none⟩) t.length cap, .int .i64 p] w fun e w' => e = .returned (.int .i64 (dpF t f p)) ∧ Below w.heap.size w w'
  | 0, _, p, hT, hf, _, _, _ => absurd hT.bd.1 (by omega)
  | f + 1, h, p, hT, hf, w, hN, C => depth_step t hL b o cap hcap hcm f (by omega) (fun p hT hf w hN C => depth_any t hL b o cap hcap hcm f (by omega) p hT hf w hN C) p hT hf w hN C
theorem depth_ok (t : List Nd) (hL : t.length ≤ 1000) (b o cap : Nat) (hcap : t.length ≤ cap) (hcm : cap ≤ 9223372036854775807) (p : Nat) (hT : TmA t p) (w : World) (hN : NdA w b o t) (C : KndW w) :
    Calls Tryd.prog 45 #[.slice (some ⟨b, o, none⟩) t.length cap, .int .i64 p] w fun e w' => e = .returned (.int .i64 (dpA t p)) ∧ Below w.heap.size w w' := by
  have := depth_any t hL b o cap hcap hcm (szA t p) (by have := hT.bd; omega) p hT (Nat.le_refl _) w hN C
  exact this

end Go.Proofs.YtadjhofomabbmaaDoor
