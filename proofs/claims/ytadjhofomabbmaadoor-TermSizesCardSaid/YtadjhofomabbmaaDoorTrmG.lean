/-
  Package term: sorted: what it answers.
-/
import Derived.Test.YtadjhofomabbmaaDoorTrmF
import Derived.Test.YtadjhofomabbmaaDoorTrmR
namespace Go.Proofs.YtadjhofomabbmaaDoor
open Go.RowKit Go.Lib Go.Shelf
set_option linter.unusedVariables false
attribute [local go_sem] Oper.semAt_some

/-- Marks of loops over iterators, among the deferred calls. -/
def marks (Ds : List Nat) : List Deferred := Ds.map fun D => { target := .collected D, args := #[] }
/-- A frame on its way out takes up all marks: no cell turns. -/
theorem leaves_marks {F : Fence} {n : Nat} {P : Program} {fn : Func} {tmps : Array Value} {R : Ending → World → Prop} {B : Nat} : ∀ (Ds : List Nat) (W : World), Ds.Nodup → (∀ D ∈ Ds, B ≤ D ∧ W.heap[D]? = some (.deferred (some []))) →
    (∀ W', Below B W W' → (∀ a v, W.cell? a = some v → W'.cell? a = some v) → ∃ v, (results fn tmps).run P W' = .ok v W' ∧ R (.returned v) W') → LeavesInM F n P fn tmps R (marks Ds) .returning W
  | [], W, _, _, h => h W (Below.refl _ _) (fun _ _ h => h)
  | D :: Ds, W, hnd, hK, h => by
    obtain ⟨hB, hD⟩ := hK D (by simp)
    obtain ⟨hn1, hn2⟩ := List.nodup_cons.1 hnd
    refine ⟨by simp, .inl ⟨D, _, rfl, run_takeDeferred hD, ?_⟩⟩
    have hg := grownBy_putObj' W D (.deferred none)
    refine leaves_marks Ds _ hn2 (fun D' hD' => ⟨(hK D' (by simp [hD'])).1, ?_⟩) (fun W' hb hc => h W' (Below.trans ?_ hb) (fun a v hv => hc a v (cell_kept hv hg (fun r e => by cases e; exact ⟨_, hD, rfl⟩))))
    · rw [World.putObj_heap_other (fun e => hn1 (by subst e; exact hD'))]
      exact (hK D' (by simp [hD'])).2
    · exact (Below.refl B W).grown hg (by have := (Array.getElem?_eq_some_iff.1 hD).1; omega) (fun k e => by cases e; exact hB)

theorem memF (c : Nat) : ∀ (k : Nat) (h : k ≤ c) (i : Nat) (hi : i < k), (⟨i, Nat.lt_of_lt_of_le hi h⟩ : Fin c) ∈ upF c k h
  | k + 1, h, i, hi => by
    rw [upF]
    by_cases e : i = k
    · subst e; simp
    · exact List.mem_append_left _ (memF c k _ i (by omega))
/-- Is what stands below a node as its op has it? -/
def SrtA (t : List Nd) (p : Nat) : Prop := ∀ i, i < cnO (opA t p) → mkO (opA t (plA t (p + 1) i)) = kdC (ixO (opA t p)) i

set_option maxRecDepth 100000 in
set_option maxHeartbeats 8000000 in
theorem sorted_main (t : List Nd) (hL : t.length ≤ 1000) (b o cap : Nat) (hcap : t.length ≤ cap) (hcm : cap ≤ 9223372036854775807) (hT : ∀ p, p < t.length → TmA t p) (w : World) (hb0 : b < w.heap.size) (hN : NdA w b o t) (C : KndW w) :
    Calls Tryd.prog 44 #[.slice (some ⟨b, o, none⟩) t.length cap] w fun e w' => (∃ r, e = .returned (.bool r) ∧ (r = true ↔ ∀ p, p < t.length → SrtA t p)) ∧ Below w.heap.size w w' := by
  have HN := Lib.hid hN
  have HC := Lib.hid C
  have HT := Lib.hid hT
  have HMk := Lib.hid (fun p w => below_make (some ⟨b, o, none⟩) t.length cap p w)
  have hk0 : 1 < w.heap.size := ltT (C.c0 0 (by omega))
  clear hN C hT
  obtain ⟨n, hn⟩ : ∃ n : Nat, 4 ≤ n := ⟨4, by omega⟩
  have h1 : 1 ≤ n := by omega
  refine callsIn_wide.1 (callsIn_of_wp_marks (n := n) Tryd.func44 rfl trivial ?_ rfl)
  simp only [Tryd.ntmps44, List.size_toArray, List.length_cons, List.length_nil, Nat.reduceAdd, Nat.reduceSub, Array.replicate_succ, Array.replicate_zero, List.push_toArray, List.append_toArray, List.nil_append, List.cons_append]
  gi_wp2
  obtain ⟨wa, hwa⟩ : ∃ wa, wa = w.alloc (.cells #[(.slice (some ⟨b, o, none⟩) t.length cap)] 37) := ⟨_, rfl⟩
  obtain ⟨wb, hwb⟩ : ∃ wb, wb = wa.alloc (.cells #[.bool false] 4) := ⟨_, rfl⟩
  rw [← hwa, ← hwb]
  have za : wa.heap.size = w.heap.size + 1 := by rw [hwa]; simp
  have bT : Boxed wb w.heap.size 37 (.slice (some ⟨b, o, none⟩) t.length cap) := by
    have := Boxed.new w 37 (.slice (some ⟨b, o, none⟩) t.length cap)
    rw [← hwa] at this
    rw [hwb]; exact this.alloc _
  have bR : Boxed wb (w.heap.size + 1) 4 (.bool false) := by
    have := Boxed.new wa 4 (.bool false)
    rw [← hwb, za] at this; exact this
  have hBw : Below w.heap.size w wb := by
    rw [hwb, hwa]; exact ((Below.refl _ w).alloc (Nat.le_refl _) _).alloc (by simp) _
  clear hwa hwb za
  refine wpIn_loop (fun a' wr => ∃ (k : Nat) (Ds : List Nat) (u3 u4 u5 u6 u7 u11 u12 u13 u14 u15 u16 u17 u18 u19 u20 u21 u22 u23 u24 u25 u26 u27 u28 u29 u30 u31 u32 u33 u34 : Value), (k ≤ t.length ∧ (∀ p, p < k → SrtA t p) ∧ Ds.Nodup ∧ (∀ D ∈ Ds, w.heap.size ≤ D ∧ wr.heap[D]? = some (.deferred (some []))) ∧ Boxed wr w.heap.size 37 (.slice (some ⟨b, o, none⟩) t.length cap) ∧ Boxed wr (w.heap.size + 1) 4 (.bool false) ∧ Below w.heap.size w wr) ∧ a' = { tmps := #[(.slice (some ⟨b, o, none⟩) t.length cap), .pointer (some ⟨w.heap.size, 0, none⟩), .pointer (some ⟨w.heap.size + 1, 0, none⟩), u3, u4, u5, u6, u7, (.slice (some ⟨b, o, none⟩) t.length cap), .int .i64 (t.length : Int), .int .i64 (k : Int), u11, u12, u13, u14, u15, u16, u17, u18, u19, u20, u21, u22, u23, u24, u25, u26, u27, u28, u29, u30, u31, u32, u33, u34], defers := marks Ds }) (fun a' _ => t.length - (RowKit.intOf (a'.tmps.getD 10 undef)).toNat) ?atStart ?round
  case atStart => exact ⟨0, [], _, _, _, _, _, _, _, _, _, _, _, _, _, _, _, _, _, _, _, _, _, _, _, _, _, _, _, _, _, ⟨Nat.zero_le _, fun p hp => absurd hp (Nat.not_lt_zero p), List.nodup_nil, (fun D hD => absurd hD List.not_mem_nil), bT, bR, hBw⟩, rfl⟩
  case round =>
    rintro _ wr ⟨k, Ds, u3, u4, u5, u6, u7, u11, u12, u13, u14, u15, u16, u17, u18, u19, u20, u21, u22, u23, u24, u25, u26, u27, u28, u29, u30, u31, u32, u33, u34, ⟨hk, hsr, hnd, hDs, hTb, hRb, hB⟩, rfl⟩
    have HI := Lib.hid (And.intro hsr (And.intro hnd (And.intro hDs (And.intro hTb (And.intro hRb hB)))))
    have cT := hTb.cell
    by_cases hlt : k < t.length
    · have i0 : (0 : Int) ≤ (k : Int) := by omega
      have i1 : (k : Int) < (t.length : Int) := by omega
      have hnc := (HN.out.keep hB) k hlt
      obtain ⟨nd, hnd'⟩ : ∃ nd, nd = t.getD k default := ⟨_, rfl⟩
      rw [← hnd'] at hnc
      have HOp : Hid (opA t k = nd.op) := Lib.hid (by rw [hnd']; rfl)
      obtain ⟨e0, e1, e2, e3, e4⟩ := hnc
      have HK := Lib.hid (fun w' (hb : Below wr.heap.size wr w') => kindof_any nd.op w' ((HC.out.keep hB).keep hb))
      have HKk : Hid (∃ kk, kk = ixO nd.op) := Lib.hid ⟨_, rfl⟩
      obtain ⟨m0, m1, m2, m3, m4, m5, m6, m7, hR, hm0⟩ := rowC_is0 (ixO nd.op)
      rw [hR] at HK
      have HRw := Lib.hid hR
      clear hsr hnd hDs hTb hRb hB hR hm0 hnd'
      gi_wp2
      refine wide_in2 (HK.out _ (newB _ _)) ?_
      rintro e w1 ⟨rfl, hb1⟩
      have hb1' := onB (newB wr _) hb1
      have HB1 := Lib.hid hb1'
      have cT1 := newT (keepT hb1' cT)
      clear hb1 cT
      gi_wp2
      obtain ⟨wk, hwk⟩ : ∃ wk, wk = w1.alloc (.cells #[.int .i64 m0, .int .i64 m1, .int .i64 m2, .int .i64 m3, .int .i64 m4, .int .i64 m5, .int .i64 m6, .bool m7] 70) := ⟨_, rfl⟩
      rw [← hwk]
      have HWk := Lib.hid hwk
      have zk : wk.heap.size = w1.heap.size + 1 := by rw [hwk]; simp
      clear hwk
      refine wide_in2 (HMk.out _ _) ?_
      rintro e w2 ⟨rfl, rfl⟩
      gi_wp2
      have hI := HI.out
      have hBr := hI.2.2.2.2.2
      have zr := HB1.out.size
      have hwk := HWk.out
      have cS : ((wk.alloc (.cells #[.slice (some ⟨b, o, none⟩) t.length cap] 37)).alloc (.cells #[.int .i64 (k : Int)] 3)).cell? ⟨w1.heap.size + 1, 0, none⟩ = some (.slice (some ⟨b, o, none⟩) t.length cap) := by
        refine newT ?_ _
        rw [← zk, World.cell?_alloc_at _ _ _ _ rfl]; rfl
      have cP : ((wk.alloc (.cells #[.slice (some ⟨b, o, none⟩) t.length cap] 37)).alloc (.cells #[.int .i64 (k : Int)] 3)).cell? ⟨w1.heap.size + 1 + 1, 0, none⟩ = some (.int .i64 (k : Int)) := by
        rw [World.cell?_alloc_at _ _ _ _ (by simp [zk])]; rfl
      have hB0 : Below wk.heap.size wk ((wk.alloc (.cells #[.slice (some ⟨b, o, none⟩) t.length cap] 37)).alloc (.cells #[.int .i64 (k : Int)] 3)) := ((Below.refl _ wk).alloc (Nat.le_refl _) _).alloc (by simp) _
      have zW : ((wk.alloc (.cells #[.slice (some ⟨b, o, none⟩) t.length cap] 37)).alloc (.cells #[.int .i64 (k : Int)] 3)).heap.size = w1.heap.size + 3 := by simp [zk]
      obtain ⟨W0, hW0⟩ : ∃ W0, W0 = (wk.alloc (.cells #[.slice (some ⟨b, o, none⟩) t.length cap] 37)).alloc (.cells #[.int .i64 (k : Int)] 3) := ⟨_, rfl⟩
      rw [← hW0] at cS cP hB0 zW ⊢
      have hB1k : Below w1.heap.size w1 wk := by rw [hwk]; exact newB _ _
      have hBr0 : Below wr.heap.size wr W0 := onB HB1.out (onB hB1k hB0)
      have hBw0 : Below w.heap.size w W0 := onB hBr hBr0
      obtain ⟨c, hc⟩ : ∃ c, c = cnO (opA t k) := ⟨_, rfl⟩
      have hcn := cn_le (opA t k)
      rw [← hc] at hcn
      have tk := HT.out k hlt
      have hKin : ∀ x : Fin c, plA t (k + 1) x.1 < t.length := fun x => ((tk.kid (i := x.1) (by rw [← hc]; exact x.2)).1).lt
      have HF : Hid (∀ (x : Fin c) W', Below W0.heap.size W0 W' → W'.cell? ⟨w.heap.size, 0, none⟩ = some (.slice (some ⟨b, o, none⟩) t.length cap) ∧ W'.cell? ⟨b, o + plA t (k + 1) x.1 * 5, none⟩ = some (.int .i64 (opA t (plA t (k + 1) x.1))) ∧ W'.cell? ⟨w1.heap.size, 1 + x.1, none⟩ = some (.int .i64 (kdC (ixO (opA t k)) x.1)) ∧ KndW W') := Lib.hid (fun x W' hb => by
        refine ⟨?_, ?_, ?_, ((HC.out.keep hBw0).keep hb)⟩
        · exact keepT hb (keepT hB0 (by rw [hwk]; exact cT1 _))
        · exact ((HN.out.keep hBw0).keep hb _ (hKin x)).c0
        · refine keepT hb (keepT hB0 ?_)
          rw [hwk, ← HRw.out, World.cell?_alloc_at _ _ _ _ rfl, ← HOp.out]
          have h4 : x.1 < 4 := by have := x.2; omega
          generalize x.1 = j at *
          match j, h4 with
          | 0, _ => rfl
          | 1, _ => rfl
          | 2, _ => rfl
          | 3, _ => rfl)
      have hDlt : ∀ D ∈ Ds, w.heap.size ≤ D ∧ D < wr.heap.size ∧ W0.heap[D]? = some (.deferred (some [])) := fun D hD => by
        obtain ⟨h1, h2⟩ := hI.2.2.1 D hD
        have h3 := (Array.getElem?_eq_some_iff.1 h2).1
        exact ⟨h1, h3, (hBr0.block D h3).trans h2⟩
      have HDlt := Lib.hid hDlt
      have bR0 : Boxed W0 (w.heap.size + 1) 4 (.bool false) := boxB hBr0 hI.2.2.2.2.1
      have bT0 : Boxed W0 w.heap.size 37 (.slice (some ⟨b, o, none⟩) t.length cap) := boxB hBr0 hI.2.2.2.1
      have hzz := hBr0.size
      have hzw := hBr.size
      have hRlt := hI.2.2.2.2.1.lt
      clear hwk hW0 hDlt hI cT1 hb1'
      refine wpIn_rangeFunc_ownG rfl h1 (gf := 55) (lb := #[.pointer (some ⟨w1.heap.size + 1 + 1, 0, none⟩), .pointer (some ⟨w1.heap.size + 1, 0, none⟩)]) rfl trivial (enters_of Tryd.func55 (by kernel_rfl) rfl)
        (below_stops (n - 1) (w1.heap.size + 1 + 1) (w1.heap.size + 1) W0.heap.size t hL b o cap k hcap hcm (by omega) tk c hc W0 cP cS (by omega) (HN.out.keep hBw0) (HC.out.keep hBw0) (by omega)) KpT.trans (fun W l o o' h hl hc _ => KpT.put (s := W0.heap.size) (by omega) W l o o' h hl hc) (Below.refl _ _) (fun _ => rfl)
        (fun pre W => (∀ x ∈ pre, mkO (opA t (plA t (k + 1) x.1)) = kdC (ixO (opA t k)) x.1) ∧ Below W0.heap.size W0 W)
        (fun cc pre W => (cc = .ret ∧ ∃ x : Fin c, mkO (opA t (plA t (k + 1) x.1)) ≠ kdC (ixO (opA t k)) x.1) ∧ Boxed W (w.heap.size + 1) 4 (.bool false) ∧ (∀ D ∈ Ds, W.heap[D]? = some (.deferred (some []))) ∧ Below w.heap.size w W)
        (OwnFrom.and (ownFrom_pure _ _) (ownFrom_below (Nat.le_refl _) (Nat.le_refl _)))
        (fun cc => OwnFrom.and (ownFrom_pure _ _) (OwnFrom.and (Go.Own.from (boxed_own (w.heap.size + 1) 4 (fun _ : List (Fin c) => .bool false)) _) (OwnFrom.and (fun s A B row hs hg hr D hD => (hg.block D (Array.getElem?_eq_some_iff.1 (hs D hD)).1 (fun e => by
            obtain ⟨h, _⟩ := hr D e.symm
            have := HDlt.out D hD
            omega)).trans (hs D hD)) (ownFrom_below (Nat.le_refl _) (by omega)))))
        ⟨fun x hx => absurd hx List.not_mem_nil, Below.refl _ _⟩
        (fun x => { tmps := #[.slice (some ⟨b, o, none⟩) t.length cap, .pointer (some ⟨w.heap.size, 0, none⟩), .pointer (some ⟨w.heap.size + 1, 0, none⟩), .int .i64 (k : Int), .pointer (some ⟨wr.heap.size, 0, none⟩), .pointer (some ⟨w1.heap.size, 0, none⟩), .int .i64 (x.1 : Int), .int .i64 ((plA t (k + 1) x.1 : Nat) : Int), .slice (some ⟨b, o, none⟩) t.length cap, .int .i64 (t.length : Int), .int .i64 (k : Int), .bool true, .int .i64 (k : Int), .pointer (some ⟨b, o + k * 5, none⟩), .agg #[.int .i64 nd.op, .int .i64 nd.a, .int .i64 nd.b, .int .i64 nd.num, .int .i64 nd.den], .pointer (some ⟨wr.heap.size, 0, none⟩), .int .i64 nd.op, .agg #[.int .i64 m0, .int .i64 m1, .int .i64 m2, .int .i64 m3, .int .i64 m4, .int .i64 m5, .int .i64 m6, .bool m7], .slice (some ⟨b, o, none⟩) t.length cap, .int .i64 (k : Int), .func (.func 55) #[] #[.pointer (some ⟨w1.heap.size + 1 + 1, 0, none⟩), .pointer (some ⟨w1.heap.size + 1, 0, none⟩)], .int .i64 (x.1 : Int), .int .i64 ((plA t (k + 1) x.1 : Nat) : Int), u23, u24, u25, u26, u27, u28, u29, u30, u31, u32, u33, u34], defers := [] }) ?assign ?body ?done ?stop
      case assign =>
        intro l x W K hK
        dsimp only [encT]
        gi_wp2
        exact hK
      case body =>
        rintro l pre x W ⟨hpre, hB⟩ hltp
        have hd : 1 ≤ n - 1 - 1 := by omega
        have hmx : Tryd.prog.follows .mixedOrders = true := by kernel_rfl
        obtain ⟨f1, f2, f3, _⟩ := HF.out x W hB
        have hRW := boxB hB bR0
        have cR := hRW.cell
        have fR := hRW.frozen
        have HB := Lib.hid hB
        have HPre := Lib.hid hpre
        have HRW := Lib.hid hRW
        have HSort : Hid (∀ W', Below W0.heap.size W0 W' → Calls Tryd.prog 15 #[.int .i64 (opA t (plA t (k + 1) x.1))] W' fun e w' => e = .returned (.int .i64 (mkO (opA t (plA t (k + 1) x.1)))) ∧ Below W'.heap.size W' w') := Lib.hid (fun W' hb => tsort_any _ W' (HF.out x W' hb).2.2.2)
        have HX2 : Hid ((∃ x : Fin c, mkO (opA t (plA t (k + 1) x.1)) ≠ kdC (ixO (opA t k)) x.1) ∨ mkO (opA t (plA t (k + 1) x.1)) = kdC (ixO (opA t k)) x.1) := Lib.hid (by
          by_cases e : mkO (opA t (plA t (k + 1) x.1)) = kdC (ixO (opA t k)) x.1
          · exact .inr e
          · exact .inl ⟨x, e⟩)
        have j0 : (0 : Int) ≤ ((plA t (k + 1) x.1 : Nat) : Int) := by omega
        have j1 : ((plA t (k + 1) x.1 : Nat) : Int) < (t.length : Int) := by have := hKin x; omega
        have j2 : (0 : Int) ≤ (x.1 : Int) := by omega
        have j3 : (x.1 : Int) < 4 := by have := x.2; omega
        obtain ⟨a1, ha1⟩ : ∃ a1, a1 = mkO (opA t (plA t (k + 1) x.1)) := ⟨_, rfl⟩
        obtain ⟨d1, hd1⟩ : ∃ d1, d1 = kdC (ixO (opA t k)) x.1 := ⟨_, rfl⟩
        rw [← ha1] at HSort
        rw [← hd1] at f3
        have HAD := Lib.hid (And.intro ha1 hd1)
        have HF3 : Hid (∀ W', Below W0.heap.size W0 W' → W'.cell? ⟨w.heap.size, 0, none⟩ = some (.slice (some ⟨b, o, none⟩) t.length cap) ∧ W'.cell? ⟨b, o + plA t (k + 1) x.1 * 5, none⟩ = some (.int .i64 (opA t (plA t (k + 1) x.1))) ∧ W'.cell? ⟨w1.heap.size, 1 + x.1, none⟩ = some (.int .i64 d1)) := Lib.hid (fun W' hb => by
          obtain ⟨g1, g2, g3, _⟩ := HF.out x W' hb
          rw [hd1]; exact ⟨g1, g2, g3⟩)
        clear hpre hB hRW ha1 hd1
        gi_wp2
        refine round_held (fun w' => w'.cell? ⟨w.heap.size, 0, none⟩ = some (.slice (some ⟨b, o, none⟩) t.length cap) ∧ w'.cell? ⟨b, o + plA t (k + 1) x.1 * 5, none⟩ = some (.int .i64 (opA t (plA t (k + 1) x.1))) ∧ w'.cell? ⟨w1.heap.size, 1 + x.1, none⟩ = some (.int .i64 d1) ∧ Below W.heap.size W w') hmx (by kernel_rfl) (fun ⟨_, _, h⟩ => h) ⟨f1, f2, f3, Below.drew (Below.refl _ _)⟩ (fun hS0 => ?_)
        refine wpAnyH_take (i := 0) (v := .slice (some ⟨b, o, none⟩) t.length cap) rfl (by kernel_rfl) (by kernel_rfl) (by kernel_rfl) (fun _ _ _ h => h) (Or.inl ⟨by rfl, fun w' hS => ?_⟩) (by assumption) ?_
        · obtain ⟨q1, q2, q3, q4⟩ := hS
          go_simp
        simp only [Act.put]
        refine wpAnyH_take (i := 1) (v := .int .i64 ((plA t (k + 1) x.1 : Nat) : Int)) rfl (by kernel_rfl) (by kernel_rfl) (by kernel_rfl) (fun _ _ _ h => h) (Or.inl ⟨by rfl, fun w' hS => ?_⟩) (by assumption) ?_
        · obtain ⟨q1, q2, q3, q4⟩ := hS
          go_simp
        simp only [Act.put]
        refine wpAnyH_take (i := 2) (v := .pointer (some ⟨b, o + plA t (k + 1) x.1 * 5, none⟩)) rfl (by kernel_rfl) (by kernel_rfl) (by kernel_rfl) (fun _ _ _ h => h) (Or.inl ⟨by rfl, fun w' hS => ?_⟩) (by assumption) ?_
        · obtain ⟨q1, q2, q3, q4⟩ := hS
          go_simp
        simp only [Act.put]
        refine wpAnyH_take (i := 3) (v := .pointer (some ⟨b, o + plA t (k + 1) x.1 * 5, none⟩)) rfl (by kernel_rfl) (by kernel_rfl) (by kernel_rfl) (fun _ _ _ h => h) (Or.inl ⟨by rfl, fun w' hS => ?_⟩) (by assumption) ?_
        · obtain ⟨q1, q2, q3, q4⟩ := hS
          go_simp
        simp only [Act.put]
        refine wpAnyH_take (i := 4) (v := .int .i64 (opA t (plA t (k + 1) x.1))) rfl (by kernel_rfl) (by kernel_rfl) (by kernel_rfl) (fun _ _ _ h => h) (Or.inl ⟨by rfl, fun w' hS => ?_⟩) (by assumption) ?_
        · obtain ⟨q1, q2, q3, q4⟩ := hS
          go_simp
        simp only [Act.put]
        refine wpAnyH_take (i := 6) (v := .int .i64 (x.1 : Int)) rfl (by kernel_rfl) (by kernel_rfl) (by kernel_rfl) (fun _ _ _ h => h) (Or.inl ⟨by rfl, fun w' hS => ?_⟩) (by assumption) ?_
        · obtain ⟨q1, q2, q3, q4⟩ := hS
          go_simp
        simp only [Act.put]
        refine wpAnyH_take (i := 7) (v := .pointer (some ⟨w1.heap.size, 1, none⟩)) rfl (by kernel_rfl) (by kernel_rfl) (by kernel_rfl) (fun _ _ _ h => h) (Or.inl ⟨by rfl, fun w' hS => ?_⟩) (by assumption) ?_
        · obtain ⟨q1, q2, q3, q4⟩ := hS
          go_simp
        simp only [Act.put]
        refine wpAnyH_take (i := 8) (v := .pointer (some ⟨w1.heap.size, 1 + x.1, none⟩)) rfl (by kernel_rfl) (by kernel_rfl) (by kernel_rfl) (fun _ _ _ h => h) (Or.inl ⟨by rfl, fun w' hS => ?_⟩) (by assumption) ?_
        · obtain ⟨q1, q2, q3, q4⟩ := hS
          go_simp
        simp only [Act.put]
        refine wpAnyH_take (i := 9) (v := .int .i64 (d1 : Int)) rfl (by kernel_rfl) (by kernel_rfl) (by kernel_rfl) (fun _ _ _ h => h) (Or.inl ⟨by rfl, fun w' hS => ?_⟩) (by assumption) ?_
        · obtain ⟨q1, q2, q3, q4⟩ := hS
          go_simp
        simp only [Act.put]
        refine wpAnyH_ready (rs := [5]) (by kernel_rfl) (by simp) (AllReadyH.cons rfl (fun K hK => ?_) AllReadyH.nil)
        go_simp
        refine (HSort.out _ (Below.drew HB.out)).mono ?_
        rintro e w' ⟨rfl, hbx⟩
        have HBy := Lib.hid (undrewT hbx)
        have HBx := Lib.hid (HB.out.trans (HBy.out.mono HB.out.size))
        obtain ⟨g1, g2, g3⟩ := HF3.out w' HBx.out
        clear hbx
        refine hK.out _ _ ⟨g1, g2, g3, HBy.out⟩ (fun hS1 => ?_)
        clear hK hS0
        refine wpAnyH_take (i := 10) (v := .bool ((a1 : Int) != (d1 : Int))) rfl (by kernel_rfl) (by kernel_rfl) (by kernel_rfl) (fun _ _ _ h => h) (Or.inl ⟨by rfl, fun w' hS => ?_⟩) (by assumption) ?_
        · go_simp
        simp only [Act.put]
        refine wpAnyH_done (by kernel_rfl) (NoPanic.normal ?_) _
        show Exit.then _ _ Exit.normal { tmps := #[.slice (some ⟨b, o, none⟩) t.length cap, .pointer (some ⟨w.heap.size, 0, none⟩), .pointer (some ⟨w.heap.size + 1, 0, none⟩), .int .i64 (k : Int), .pointer (some ⟨wr.heap.size, 0, none⟩), .pointer (some ⟨w1.heap.size, 0, none⟩), .int .i64 (x.1 : Int), .int .i64 ((plA t (k + 1) x.1 : Nat) : Int), .slice (some ⟨b, o, none⟩) t.length cap, .int .i64 (t.length : Int), .int .i64 (k : Int), .bool true, .int .i64 (k : Int), .pointer (some ⟨b, o + k * 5, none⟩), .agg #[.int .i64 nd.op, .int .i64 nd.a, .int .i64 nd.b, .int .i64 nd.num, .int .i64 nd.den], .pointer (some ⟨wr.heap.size, 0, none⟩), .int .i64 nd.op, .agg #[.int .i64 m0, .int .i64 m1, .int .i64 m2, .int .i64 m3, .int .i64 m4, .int .i64 m5, .int .i64 m6, .bool m7], .slice (some ⟨b, o, none⟩) t.length cap, .int .i64 (k : Int), .func (.func 55) #[] #[.pointer (some ⟨w1.heap.size + 1 + 1, 0, none⟩), .pointer (some ⟨w1.heap.size + 1, 0, none⟩)], .int .i64 (x.1 : Int), .int .i64 ((plA t (k + 1) x.1 : Nat) : Int), .slice (some ⟨b, o, none⟩) t.length cap, .int .i64 ((plA t (k + 1) x.1 : Nat) : Int), .pointer (some ⟨b, o + plA t (k + 1) x.1 * 5, none⟩), .pointer (some ⟨b, o + plA t (k + 1) x.1 * 5, none⟩), .int .i64 (opA t (plA t (k + 1) x.1)), .int .i64 (a1 : Int), .int .i64 (x.1 : Int), .pointer (some ⟨w1.heap.size, 1, none⟩), .pointer (some ⟨w1.heap.size, 1 + x.1, none⟩), .int .i64 (d1 : Int), .bool ((a1 : Int) != (d1 : Int)), u34], defers := [] } _
        have hRx := boxB HBy.out HRW.out
        have cRx := hRx.cell
        have fRx := hRx.frozen
        have HRx := Lib.hid hRx
        clear hS1 hRx cR fR
        by_cases hne : a1 = d1
        · have hb : ((a1 : Int) == (d1 : Int)) = true := by simp; omega
          have HNe := Lib.hid hne
          clear hne
          gi_wp2
          refine ⟨(othersT HBy.out).from _, KpT.of HB.out.size HBy.out, fun y hy => ?_, HBx.out⟩
          rcases List.mem_append.1 hy with hy | hy
          · exact HPre.out y hy
          · obtain rfl : y = x := by simpa using hy
            rw [← HAD.out.1, ← HAD.out.2]; exact HNe.out
        · have hb : ((a1 : Int) == (d1 : Int)) = false := by simp; omega
          have HNe := Lib.hid hne
          clear hne
          gi_wp2
          refine ⟨((othersT HBy.out).trans (KeepsOthers.setCell _ _ _)).from _, ⟨rfl, x, ?_⟩, HRx.out.set _, fun D hD => ?_, (hBw0.trans (HBx.out.mono hBw0.size)).setCell (p := ⟨w.heap.size + 1, 0, none⟩) (Nat.le_succ _) _⟩
          · rw [← HAD.out.1, ← HAD.out.2]; exact HNe.out
          · obtain ⟨q1, q2, q3⟩ := HDlt.out D hD
            refine (Below.heap_setCell _ _ _ D (fun e => ?_)).trans ((HBx.out.block D (by omega)).trans q3)
            have e' : D = w.heap.size + 1 := e
            have h2 : W0.heap[w.heap.size + 1]? = _ := bR0
            rw [e', h2] at q3; cases q3
      case done =>
        rintro D ys W hD rfl ⟨hpre, hB⟩ hK
        have hDn : D ∉ Ds := fun h => by
          have := HDlt.out D h
          omega
        have hsrt : SrtA t k := fun i hi => hpre ⟨i, by rw [hc]; exact hi⟩ (memF c c (Nat.le_refl _) i (by rw [hc]; exact hi))
        gi_wp2
        refine ⟨⟨k + 1, D :: Ds, _, _, _, _, _, _, _, _, _, _, _, _, _, _, _, _, _, _, _, _, _, _, _, _, _, _, _, _, _, ⟨by omega, fun q hq => ?_, List.nodup_cons.2 ⟨hDn, HI.out.2.1⟩, fun D' hD' => ?_, boxB hB bT0, boxB hB bR0, hBw0.trans (hB.mono hBw0.size)⟩, rfl⟩, by simp [RowKit.intOf]; omega⟩
        · by_cases e : q = k
          · subst e; exact hsrt
          · exact HI.out.1 q (by omega)
        · rcases List.mem_cons.1 hD' with e | h
          · subst e; exact ⟨by omega, hK⟩
          · obtain ⟨g1, g2, g3⟩ := HDlt.out D' h
            exact ⟨g1, (hB.block D' (by omega)).trans g3⟩
      case stop =>
        rintro D cc pre W hD _ ⟨⟨rfl, x, hx⟩, hRx, hDx, hBx⟩ hK
        have hDn : D ∉ Ds := fun h => by
          have := HDlt.out D h
          omega
        have HX : Hid (¬ ∀ q, q < t.length → SrtA t q) := Lib.hid (fun h => hx (h k hlt x.1 (by rw [← hc]; exact x.2)))
        have HN1 := Lib.hid (List.nodup_cons.2 ⟨hDn, HI.out.2.1⟩)
        have HDs : Hid (∀ D' ∈ D :: Ds, w.heap.size ≤ D' ∧ W.heap[D']? = some (.deferred (some []))) := Lib.hid (fun D' hD' => by
          rcases List.mem_cons.1 hD' with e | h
          · subst e; exact ⟨by omega, hK⟩
          · exact ⟨(HDlt.out D' h).1, hDx D' h⟩)
        have HR := Lib.hid hRx.cell
        clear hx hDn hDx hRx
        gi_wp2
        refine leaves_marks (D :: Ds) W HN1.out HDs.out (fun W' hb hcw => ?_)
        have hcr := hcw _ _ HR.out
        exact ⟨.bool false, by simp [results, Tryd.results44, go_sem, hcr], ⟨false, rfl, ⟨(fun h => by cases h), fun h => absurd h HX.out⟩⟩, hBx.trans hb⟩
    · obtain rfl : k = t.length := by omega
      have HSr : Hid (∀ q, q < t.length → SrtA t q) := Lib.hid hsr
      have HDs := Lib.hid hDs
      have HN1 := Lib.hid hnd
      have bR2 := hRb.set (.bool true)
      have cR := hRb.cell
      have fR := hRb.frozen
      have HR := Lib.hid bR2.cell
      have HB := Lib.hid hB
      have HRb := Lib.hid hRb
      clear hsr hDs hnd hTb hRb hB bR2
      gi_wp2
      refine leaves_marks (B := w.heap.size) Ds _ HN1.out (fun D hD => ⟨(HDs.out D hD).1, (Below.heap_setCell _ _ _ D (fun e => ?_)).trans (HDs.out D hD).2⟩) (fun W' hb hcw => ?_)
      · have h1 := (HDs.out D hD).2
        have h2 : wr.heap[w.heap.size + 1]? = _ := HRb.out
        have e' : D = w.heap.size + 1 := e
        rw [e', h2] at h1; cases h1
      · have hcr := hcw _ _ HR.out
        exact ⟨.bool true, by simp [results, Tryd.results44, go_sem, hcr], ⟨true, rfl, ⟨fun _ => HSr.out, fun _ => rfl⟩⟩, (HB.out.setCell (p := ⟨w.heap.size + 1, 0, none⟩) (Nat.le_succ _) _).trans hb⟩

end Go.Proofs.YtadjhofomabbmaaDoor
