/-
  Package term: Below: what it answers.
-/
import Derived.Test.YtadjhofomabbmaaDoorTrmD
import Derived.Test.YtadjhofomabbmaaDoorOwn
import Derived.Maps.AppendAt
namespace Go.Proofs.YtadjhofomabbmaaDoor
open Go.RowKit Go.Lib Go.Shelf
set_option linter.unusedVariables false
attribute [local go_sem] Oper.semAt_some

/-- The places of the terms below, as numbers. -/
def plL (t : List Nd) (p k : Nat) : List Int := uptoT (fun i => ((plA t (p + 1) i : Nat) : Int)) k
theorem plL_len (t : List Nd) (p k : Nat) : (plL t p k).length = k := uptoT_length _ _
theorem plL_of (t : List Nd) (p c k : Nat) (h : k ≤ c) : (upF c k h).map (fun x => ((plA t (p + 1) x.1 : Nat) : Int)) = plL t p k := upF_map c (fun i => ((plA t (p + 1) i : Nat) : Int)) k h
theorem below_bad (a : Option Addr) (len cap : Nat) (p : Int) (w : World) (e : Nat) (he : e ≠ 0)
    (hS : Calls Tryd.prog 19 #[.slice a len cap, .int .i64 p] w fun r w' => r = .returned (.tuple #[.int .i64 0, .int .i64 e]) ∧ Below w.heap.size w w') :
    Calls Tryd.prog 20 #[.slice a len cap, .int .i64 p] w fun r w' => r = .returned (.tuple #[.slice none 0 0, .int .i64 e]) ∧ Below w.heap.size w w' := by
  have HS := Lib.hid hS
  have he' : ((e : Int) == 0) = false := by simp; omega
  clear hS
  obtain ⟨n, hn⟩ : ∃ n : Nat, 4 ≤ n := ⟨4, by omega⟩
  refine callsIn_wide.1 (callsIn_of_wp_marks (n := n) Tryd.func20 rfl trivial ?_ rfl)
  simp only [Tryd.ntmps20, List.size_toArray, List.length_cons, List.length_nil, Nat.reduceAdd, Nat.reduceSub, Array.replicate_succ, Array.replicate_zero, List.push_toArray, List.append_toArray, List.nil_append, List.cons_append]
  gi_wp2
  refine wide_in HS.out ?_
  rintro e w1 ⟨rfl, hb1⟩
  gi_wp2
  exact ⟨_, results_tmp2 rfl _ _ _, rfl, hb1⟩

theorem own_base {w : World} {a b : Nat} {v : Value} {l : List Int} (h : YtadjhofomabbmaaDoor.Own w b v l) (hab : a ≤ b) : YtadjhofomabbmaaDoor.Own w a v l := by
  obtain ⟨h1, h2⟩ := h
  refine ⟨h1, ?_⟩
  rcases h2 with h2 | ⟨g, cap, cur, rfl, hb, h3⟩
  · exact .inl h2
  · exact .inr ⟨g, cap, cur, rfl, Nat.le_trans hab hb, h3⟩
theorem infoIT : (Tryd.prog.info? 3).map (fun i => (i.zero, i.size, i.bytes)) = some (some (.int .i64 0), 1, 8) := by kernel_rfl
theorem box_new (w : World) (t : TypeId) (v : Value) : Boxed (w.alloc (.cells #[v] t)) w.heap.size t v := Boxed.new w t v

set_option maxRecDepth 100000 in
set_option maxHeartbeats 4000000 in
theorem below_ok (t : List Nd) (hL : t.length ≤ 1000) (b o cap p : Nat) (hcap : t.length ≤ cap) (hcm : cap ≤ 9223372036854775807) (hT : TmA t p) (w : World) (hN : NdA w b o t) (C : KndW w) :
    Calls Tryd.prog 20 #[.slice (some ⟨b, o, none⟩) t.length cap, .int .i64 p] w fun e w' => ∃ v, e = .returned (.tuple #[v, .int .i64 0]) ∧ Own w' w.heap.size v (plL t p (cnO (opA t p))) ∧ Below w.heap.size w w' := by
  have hp := hT.lt
  have hS := size_in t (by omega) b o cap hcap hcm p hp w hN C
  rw [szE_ok hT] at hS
  have HS := Lib.hid hS
  have HN := Lib.hid hN
  have HC := Lib.hid C
  have HT := Lib.hid hT
  have hcn := cn_le (opA t p)
  obtain ⟨c, hc⟩ : ∃ c, c = cnO (opA t p) := ⟨_, rfl⟩
  rw [← hc] at hcn ⊢
  have HMk := Lib.hid (fun w => below_make (some ⟨b, o, none⟩) t.length cap p w)
  obtain ⟨i0, hi, hz0, hz1, hz2⟩ := info_parts infoIT
  have hb0 : b < w.heap.size := ltT (hN p hp).c0
  have hk0 : 1 < w.heap.size := ltT (C.c0 0 (by omega))
  clear hS hN C hT
  obtain ⟨n, hn⟩ : ∃ n : Nat, 4 ≤ n := ⟨4, by omega⟩
  have h1 : 1 ≤ n := by omega
  refine callsIn_wide.1 (callsIn_of_wp_marks (n := n) Tryd.func20 rfl trivial ?_ rfl)
  simp only [Tryd.ntmps20, List.size_toArray, List.length_cons, List.length_nil, Nat.reduceAdd, Nat.reduceSub, Array.replicate_succ, Array.replicate_zero, List.push_toArray, List.append_toArray, List.nil_append, List.cons_append]
  gi_wp2
  refine wide_in2 HS.out ?_
  rintro e w1 ⟨rfl, hb1⟩
  have HB1 := Lib.hid hb1
  clear hb1
  gi_wp2
  refine wide_in2 (HMk.out _) ?_
  rintro e w2 ⟨rfl, rfl⟩
  gi_wp2
  have HB1' := HB1.out
  have hz := HB1'.size
  have bO := Boxed.new w1 31 (.slice none 0 0)
  obtain ⟨wa, hwa⟩ : ∃ wa, wa = (w1.alloc (.cells #[.slice none 0 0] 31)).alloc (.cells #[.slice (some ⟨b, o, none⟩) t.length cap] 37) := ⟨_, rfl⟩
  have za : wa.heap.size = w1.heap.size + 1 + 1 := by rw [hwa]; simp
  have cS : (wa.alloc (.cells #[.int .i64 (p : Int)] 3)).cell? ⟨w1.heap.size + 1, 0, none⟩ = some (.slice (some ⟨b, o, none⟩) t.length cap) := by
    refine newT ?_ _
    rw [hwa, World.cell?_alloc_at _ _ _ _ (by simp)]; rfl
  have cP : (wa.alloc (.cells #[.int .i64 (p : Int)] 3)).cell? ⟨w1.heap.size + 1 + 1, 0, none⟩ = some (.int .i64 (p : Int)) := by
    rw [World.cell?_alloc_at _ _ _ _ za.symm]; rfl
  have hB0 : Below w1.heap.size w1 (wa.alloc (.cells #[.int .i64 (p : Int)] 3)) := by
    rw [hwa]; exact (((Below.refl _ w1).alloc (Nat.le_refl _) _).alloc (by simp) _).alloc (by simp; omega) _
  have bW := ((bO.alloc (.cells #[.slice (some ⟨b, o, none⟩) t.length cap] 37)))
  rw [← hwa] at bW ⊢
  have bW' := bW.alloc (.cells #[.int .i64 (p : Int)] 3)
  have bS : Boxed wa (w1.heap.size + 1) 37 (.slice (some ⟨b, o, none⟩) t.length cap) := by
    have := Boxed.new (w1.alloc (.cells #[.slice none 0 0] 31)) 37 (.slice (some ⟨b, o, none⟩) t.length cap)
    rw [World.size_alloc, ← hwa] at this; exact this
  have bS := bS.alloc (.cells #[.int .i64 (p : Int)] 3)
  have zW : (wa.alloc (.cells #[.int .i64 (p : Int)] 3)).heap.size = w1.heap.size + 3 := by simp [za]
  obtain ⟨W0, hW0⟩ : ∃ W0, W0 = wa.alloc (.cells #[.int .i64 (p : Int)] 3) := ⟨_, rfl⟩
  rw [← hW0] at cS cP hB0 bW' bS zW ⊢
  have hBw : Below w.heap.size w W0 := onB HB1' hB0
  refine wpIn_rangeFunc_ownG rfl h1 (gf := 55) (lb := #[.pointer (some ⟨w1.heap.size + 1 + 1, 0, none⟩), .pointer (some ⟨w1.heap.size + 1, 0, none⟩)]) rfl trivial (enters_of Tryd.func55 (by kernel_rfl) rfl)
    (below_stops (n - 1) (w1.heap.size + 1 + 1) (w1.heap.size + 1) w1.heap.size t hL b o cap p hcap hcm (by omega) HT.out c hc W0 cP cS (by omega) (HN.out.keep hBw) (HC.out.keep hBw) (by omega)) KpT.trans (fun W l o o' h hl hc _ => KpT.put (s := W0.heap.size) (by omega) W l o o' h hl hc) (Below.refl _ _) (fun _ => rfl)
    (fun pre W => (∃ v, Boxed W w1.heap.size 31 v ∧ W.ownsRow w1.heap.size 3 1 v pre.length (pre.map fun x => Value.int .i64 ((plA t (p + 1) x.1 : Nat) : Int)) ∧ True) ∧ Boxed W (w1.heap.size + 1) 37 (.slice (some ⟨b, o, none⟩) t.length cap) ∧ Below w1.heap.size w1 W)
    (fun _ _ _ => False)
    (OwnFrom.and (Go.Own.from (holdsRow_own w1.heap.size w1.heap.size 31 3 1 (fun pre : List (Fin c) => pre.length) (fun pre => pre.map fun x => Value.int .i64 ((plA t (p + 1) x.1 : Nat) : Int)) (fun _ _ => True)) _) (OwnFrom.and (Go.Own.from (boxed_own (w1.heap.size + 1) 37 (fun _ : List (Fin c) => .slice (some ⟨b, o, none⟩) t.length cap)) _) (ownFrom_below (Nat.le_refl _) (by omega))))
    (fun _ _ _ _ _ hs _ _ => hs)
    ⟨⟨_, bW', World.ownsRow_nil _ _ _ _, trivial⟩, bS, hB0⟩
    (fun x => { tmps := #[.slice (some ⟨b, o, none⟩) t.length cap, .int .i64 p, undef, undef, .slice none 0 0, .int .i64 0, .int .i64 (szA t p), .int .i64 0, .pointer (some ⟨w1.heap.size, 0, none⟩), undef, .int .i64 ((plA t (p + 1) x.1 : Nat) : Int), .tuple #[.int .i64 (szA t p), .int .i64 0], .slice (some ⟨b, o, none⟩) t.length cap, .int .i64 p, .tuple #[.int .i64 (szA t p), .int .i64 0], .int .i64 (szA t p), .int .i64 0, .int .i64 0, .bool false, undef, .slice (some ⟨b, o, none⟩) t.length cap, .int .i64 p, .func (.func 55) #[] #[.pointer (some ⟨w1.heap.size + 1 + 1, 0, none⟩), .pointer (some ⟨w1.heap.size + 1, 0, none⟩)], .int .i64 (x.1 : Int), .int .i64 ((plA t (p + 1) x.1 : Nat) : Int), undef, undef, undef, undef, undef], defers := [] }) ?assign ?body ?done ?stop
  case assign =>
    intro l x W K hK
    dsimp only [encT]
    gi_wp2
    exact hK
  case body =>
    rintro l pre x W ⟨⟨v, hv, hrow, _⟩, hS, hB⟩ hlt
    have hc := hv.cell
    gi_wp2_with (gi_at_builtin; refine wpListIn_append_own _ rfl _ _ 31 rfl w1.heap.size 3 i0 (.int .i64 0) 1 8 Tryd.underlying31 hi hz0 hz1 hz2 rfl (by decide) _ _ _ rfl (hrow.alloc _) ⟨W.heap.size, 0, none⟩ 1 1 [.int .i64 ((plA t (p + 1) x.1 : Nat) : Int)] rfl rfl (cell_one_new _ _ _) (by simp [Value.oneCell']) (by unfold maxLen; omega) (by omega) (by have := hB.size; simp; omega) ?_; intro v' w1' hown' hgrow _; obtain ⟨g', cap', rfl⟩ := ownsRow_succ hown'; obtain ⟨hv1, hv2, hr2, hk2, hb2⟩ := hv.appended (by decide) hrow hB.size (Nat.le_refl _) hown' hgrow; have hS1 := (hS.alloc (.cells #[.int .i64 ((plA t (p + 1) x.1 : Nat) : Int)] 3)).kept hgrow (hS.not_row (by decide) hrow); have hc1 := hv1.cell; have hf1 := hv1.frozen)
    have hS2 := hS1.other (show w1.heap.size + 1 ≠ w1.heap.size by omega) (.slice (some ⟨g', 0, none⟩) (pre.length + 1) cap')
    refine ⟨hk2.from _, ⟨hb2, fun u hu => ?_⟩, ⟨⟨_, hv2, ?_, trivial⟩, hS2, hB.trans hb2⟩⟩
    · rw [hS.cell] at hu; cases hu
      exact hS2.cell
    · simpa using hr2
  case done =>
    rintro D ys W hD rfl ⟨⟨v, hv, hrow, _⟩, hS, hB⟩ hK
    have hc := hv.cell
    gi_wp2
    refine ⟨by simp, .inl ⟨_, _, rfl, run_takeDeferred hK, ?_⟩⟩
    rw [upF_length] at hrow
    have hrow' : YtadjhofomabbmaaDoor.Own W w1.heap.size v (plL t p c) := by
      unfold YtadjhofomabbmaaDoor.Own
      rw [plL_len, ← plL_of t p c c (Nat.le_refl _), List.map_map]; exact hrow
    exact ⟨_, results_tmp2 rfl _ _ _, v, rfl, own_base (ownsRow_putObj hrow' _ hK rfl) hz, onB HB1' (hB.trans (belowK_b (w := w1) (Nat.le_refl _) W D _ _ (by omega) hK rfl rfl))⟩
  case stop =>
    rintro D c pre W _ _ h _
    exact h.elim

end Go.Proofs.YtadjhofomabbmaaDoor
