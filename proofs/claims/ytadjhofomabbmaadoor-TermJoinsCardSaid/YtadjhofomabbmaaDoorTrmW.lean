/-
  Package term: told, Keys, Choices, Depth, Horizon; the reference's Keys.
-/
import Derived.Test.YtadjhofomabbmaaDoorTrmV
import Derived.Test.YtadjhofomabbmaaDoorShelf
import Derived.Sort.OwnSortedInts
namespace Go.Proofs.YtadjhofomabbmaaDoor
open Go.RowKit Go.Lib Go.Sort
set_option linter.unusedVariables false
set_option linter.unusedSimpArgs false

theorem chk_zero {t : List Nd} (h : chkK t = 0) : (ofK t).2 = 0 ∧ (ofK t).1 = 2 := by
  unfold chkK at h
  by_cases h1 : (ofK t).2 ≠ 0
  · rw [if_pos h1] at h; exact absurd h h1
  · rw [if_neg h1] at h
    by_cases h2 : (ofK t).1 = 2
    · exact ⟨by omega, h2⟩
    · rw [if_neg h2] at h; cases h
theorem chk_sl {t : List Nd} (h : chkK t = 0) {w : World} {v : Value} (hs : SlT w v t) : 0 < t.length ∧ ∃ b o cap, v = .slice (some ⟨b, o, none⟩) t.length cap ∧ t.length ≤ cap ∧ cap ≤ 9223372036854775807 ∧ NdA w b o t := by
  rcases hs with ⟨rfl, _⟩ | h1
  · have := (ofK_zero (chk_zero h).1).2.1
    exact absurd (whole_len this) (by simp)
  · exact h1

/-- The keys that told answers, in the sort's words. -/
def tdS (t : List Nd) (p : Int → Bool) : List Int := Lib.compact ((tdN t p t.length).mergeSort fun x y => decide (x ≤ y))

/-- A slice of the call's own, sorted and made compact. -/
theorem sorted_own {base : Nat} {v : Value} {l : List Int} (hl : l.length ≤ 1000) {w : World} (hb0 : base ≤ w.heap.size) (h : YtadjhofomabbmaaDoor.Own w base v l) :
    Calls Tryd.prog 62 #[v] w fun e w' => e = .returned (.tuple #[]) ∧ YtadjhofomabbmaaDoor.Own w' base v (l.mergeSort fun x y => decide (x ≤ y)) ∧ Below base w w' := by
  by_cases hv : v = .slice none 0 0
  · subst hv
    have hl0 : l = [] := by
      rcases h.reads with ⟨_, h1⟩ | ⟨g, cap, h1, _⟩
      · exact h1
      · injection h1 with h1; cases h1
    subst hl0
    refine (Tryd.slices_Sort_int_none none 0 w).mono ?_
    rintro e w' ⟨rfl, rfl⟩
    exact ⟨rfl, by simpa using h, Below.refl _ _⟩
  · obtain ⟨g, cap, rfl, hg, hgs, hc1, hc2, hll, hH⟩ := holds_of_ownsRow h hv
    rcases h.2 with ⟨e0, _⟩ | ⟨g', cap', cur, e0, hb', hcur, hn, hm, hs, ht⟩
    · exact absurd e0 hv
    · injection e0 with e1 _ e3
      injection e1 with e1
      injection e1 with e1
      subst e1 e3
      refine (Tryd.slices_Sort_int g 0 cap l w hH hgs (by omega)).mono ?_
      rintro e w' ⟨rfl, n, os, rfl⟩
      refine ⟨rfl, ?_, ?_⟩
      · have := ownsRow_sortedI (n := n) (os := os) (ss := l) (ts := l.mergeSort fun x y => decide (x ≤ y)) (List.length_mergeSort _) hg hcur hn hm hs
        unfold Own
        rw [List.length_mergeSort]; exact this
      · refine (Below.refl base w).grown (grownBy_sortedI _) (by omega) (fun k hk => ?_)
        injection hk with hk
        omega
theorem compact_own {base : Nat} {v : Value} {l : List Int} (hl : l.length ≤ 1000) {w : World} (hb0 : base ≤ w.heap.size) (h : YtadjhofomabbmaaDoor.Own w base v l) :
    Calls Tryd.prog 63 #[v] w fun e w' => ∃ v', e = .returned v' ∧ YtadjhofomabbmaaDoor.Own w' base v' (Lib.compact l) ∧ Below base w w' := by
  by_cases hv : v = .slice none 0 0
  · subst hv
    have hl0 : l = [] := by
      rcases h.reads with ⟨_, h1⟩ | ⟨g, cap, h1, _⟩
      · exact h1
      · injection h1 with h1; cases h1
    subst hl0
    refine (Tryd.slices_Compact_int_empty none 0 w).mono ?_
    rintro e w' ⟨rfl, rfl⟩
    exact ⟨_, rfl, h, Below.refl _ _⟩
  · obtain ⟨g, cap, rfl, hg, hgs, hc1, hc2, hll, hH⟩ := holds_of_ownsRow h hv
    refine (Tryd.slices_Compact_int g 0 cap l w hH (by omega) hc1).mono ?_
    rintro e w' ⟨rfl, q, rfl⟩
    have hle := Lib.compact_length_le l
    refine ⟨_, rfl, ?_, Lib.below_putRow (Below.refl _ _) hg⟩
    have := Lib.ownsRow_putRow (q := q) (k := (Lib.compact l).length) (ys := Lib.compact l ++ List.replicate (l.length - (Lib.compact l).length) 0) h (by simp; omega) hle
    rw [List.take_left] at this
    exact this

set_option maxHeartbeats 4000000 in
set_option maxRecDepth 100000 in
theorem told_bad (t : List Nd) (hl : t.length ≤ 9223372036854775807) (hbd : BdT t) (v : Value) (w : World) (hv : SlT w v t) (C : KndW w) (hk : chkK t ≠ 0) (u : Value) :
    Calls Tryd.prog 47 #[v, u] w fun e w' => e = .returned (.tuple #[.slice none 0 0, .int .i64 (chkK t)]) ∧ Below w.heap.size w w' := by
  have HO := Lib.hid (tcheck_any t hl hbd v w hv C)
  have hb : ((chkK t : Int) == 0) = false := beq_false_of_ne (by omega)
  clear hv C hbd hk
  generalize chkK t = ck at *
  go_enter Tryd.func47, Tryd.ntmps47
  go_wp2_with fail
  refine HO.out.mono ?_
  rintro e w1 ⟨rfl, hb1⟩
  go_wp2_with fail
  go_ret2
  exact ⟨rfl, hb1⟩

set_option maxHeartbeats 8000000 in
set_option maxRecDepth 100000 in
theorem told_ok (t : List Nd) (hl : t.length ≤ 100) (hbd : BdT t) (b o cap : Nat) (h0 : 0 < t.length) (hcap : t.length ≤ cap) (hcm : cap ≤ 9223372036854775807) (w : World) (hN : NdA w b o t) (C : KndW w) (hk : chkK t = 0) (ob oc : Nat) (zs : List Int) (hz : zs.length ≤ 100) (hzc : ∀ j, j < zs.length → w.cell? ⟨ob, 0 + j, none⟩ = some (.int .i64 (zs.getD j 0))) :
    Calls Tryd.prog 47 #[.slice (some ⟨b, o, none⟩) t.length cap, .slice (some ⟨ob, 0, none⟩) zs.length oc] w fun e w' => (∃ v', e = .returned (.tuple #[v', .int .i64 0]) ∧ YtadjhofomabbmaaDoor.Own w' w.heap.size v' (tdS t (fun x => zs.contains x))) ∧ Below w.heap.size w w' := by
  have hO := tcheck_any t (by omega) hbd (.slice (some ⟨b, o, none⟩) t.length cap) w (.inr ⟨h0, b, o, cap, rfl, hcap, hcm, hN⟩) C
  rw [hk] at hO
  have HO := Lib.hid hO
  have HC := Lib.hid C
  have HN := Lib.hid hN
  have HCt := Lib.hid (fun w' (hb : Below w.heap.size w w') x => Tryd.slices_Contains_int ob 0 zs.length oc zs x w' (Nat.le_refl _) (by omega) (fun j hj => keepT hb (hzc j hj)))
  simp only [List.take_length] at HCt
  obtain ⟨i0, hi0, hz0, hz1, hz2⟩ := info_parts infoIT
  have h4 : (t.length : Int) ≤ (cap : Int) := by omega
  clear C hN hbd hk hO hzc
  go_enter Tryd.func47, Tryd.ntmps47
  go_wp2_with fail
  refine HO.out.mono ?_
  rintro e w1 ⟨rfl, hb1⟩
  have HB1 := Lib.hid hb1
  clear hb1
  go_wp2_with fail
  go_loopw [7, 17] (fun vo vk wx => ∃ k : Nat, k ≤ t.length ∧ vk = .int .i64 k ∧ YtadjhofomabbmaaDoor.Own wx w.heap.size vo (tdN t (fun x => zs.contains x) k) ∧ Below w.heap.size w wx) (fun _ vk _ => t.length - (RowKit.intOf vk).toNat)
  case atStart => exact ⟨0, Nat.zero_le _, rfl, YtadjhofomabbmaaDoor.Own.nil _ _, HB1.out⟩
  case round =>
    obtain ⟨k, hk, rfl, hown, hb⟩ := hrel
    have HB := Lib.hid hb
    have HOw := Lib.hid hown
    by_cases hlt : k < t.length
    · have j0 : (0 : Int) ≤ (k : Int) := by omega
      have j1 : (k : Int) < (t.length : Int) := by omega
      have hnc := (HN.out.keep hb) k hlt
      obtain ⟨nd, hnd⟩ : ∃ nd, nd = t.getD k default := ⟨_, rfl⟩
      rw [← hnd] at hnc
      have HOp : Hid (opA t k = nd.op ∧ aA t k = nd.a) := Lib.hid (by rw [hnd]; exact ⟨rfl, rfl⟩)
      have hll := tdN_len t (fun x => zs.contains x) k
      have HLs : Hid (tdN t (fun x => zs.contains x) (k + 1) = tdN t (fun x => zs.contains x) k ++ (if zs.contains (opA t k) = true then [aA t k] else [])) := Lib.hid rfl
      rw [HOp.out.1, HOp.out.2] at HLs
      obtain ⟨e0, e1, e2, e3, e4⟩ := hnc
      clear hb hown hnd
      go_wp2_with fail
      refine (HCt.out _ (onB HB.out (newB _ _)) nd.op).mono ?_
      rintro e w2 ⟨rfl, rfl⟩
      by_cases hp : zs.contains nd.op = true
      · rw [hp]
        rw [if_pos hp] at HLs
        have HB2 := Lib.hid (onB HB.out (newB wr (.cells #[.int .i64 nd.op, .int .i64 nd.a, .int .i64 nd.b, .int .i64 nd.num, .int .i64 nd.den] 55)))
        have hown := HOw.out.grown (newB wr (.cells #[.int .i64 nd.op, .int .i64 nd.a, .int .i64 nd.b, .int .i64 nd.num, .int .i64 nd.den] 55))
        have hs1 := HB2.out.size
        generalize tdN t (fun x => zs.contains x) k = l at *
        have h63 : l.length + 1 ≤ maxLen := by unfold maxLen; omega
        have hby : (l.length + 1) * 8 ≤ 140737488355328 := by omega
        go_wp2_with (at_builtin; refine wpList_append_own _ rfl _ _ 31 rfl w.heap.size 3 i0 (.int .i64 0) 1 8 Tryd.underlying31 hi0 hz0 hz1 hz2 rfl (by decide) _ _ _ rfl (hown.alloc _) ⟨wr.heap.size + 1, 0, none⟩ 1 1 [.int .i64 nd.a] rfl rfl (by have := one_cell (wr.alloc (.cells #[.int .i64 nd.op, .int .i64 nd.a, .int .i64 nd.b, .int .i64 nd.num, .int .i64 nd.den] 55)) nd.a 3; simpa using this) (one_one _) h63 hby (by simp at hs1 ⊢; omega) ?_; intro v' w2 hown' hgrow _)
        have HO2 := Lib.hid (own_snoc hown')
        have HB3 := Lib.hid (below_append HB2.out hown (Nat.le_refl _) hs1 hgrow)
        clear hown hown' hgrow hs1
        go_wp2_with fail
        go_roundw
        case rel => exact ⟨k + 1, by omega, by go_num, by rw [HLs.out]; exact HO2.out, HB3.out⟩
        case measure => simp [RowKit.intOf]; omega
      · have hp' : zs.contains nd.op = false := by simpa using hp
        rw [hp']
        rw [if_neg hp, List.append_nil] at HLs
        clear hp
        go_wp2_with fail
        go_roundw
        case rel => exact ⟨k + 1, by omega, by go_num, by rw [HLs.out]; exact HOw.out.grown (newB _ _), onB HB.out (newB _ _)⟩
        case measure => simp [RowKit.intOf]; omega
    · obtain rfl : k = t.length := by omega
      have hll := tdN_len t (fun x => zs.contains x) t.length
      have HR : Hid (tdS t (fun x => zs.contains x) = Lib.compact ((tdN t (fun x => zs.contains x) t.length).mergeSort fun x y => decide (x ≤ y))) := Lib.hid rfl
      have hsz := hb.size
      have HSt := Lib.hid (sorted_own (by omega) hsz hown)
      generalize tdN t (fun x => zs.contains x) t.length = l at *
      clear hb hown
      go_wp2_with fail
      refine HSt.out.mono ?_
      rintro e w2 ⟨rfl, hown2, hb2⟩
      have HB2 := Lib.hid (HB.out.trans hb2)
      have hsz2 := HB2.out.size
      have HCm := Lib.hid (compact_own (by rw [List.length_mergeSort]; omega) hsz2 hown2)
      clear hown2 hb2
      go_wp2_with fail
      refine HCm.out.mono ?_
      rintro e w3 ⟨v', rfl, hown3, hb3⟩
      have HO3 := Lib.hid hown3
      have HB3 := Lib.hid (HB2.out.trans hb3)
      clear hown3 hb3
      go_wp2_with fail
      go_ret2
      exact ⟨⟨_, rfl, by rw [HR.out]; exact HO3.out⟩, HB3.out⟩

/-- Is it one of two ops? -/
def pT (o1 o2 : Int) (x : Int) : Bool := decide (x = o1) || decide (x = o2)
theorem pT_one : (fun x : Int => [(2 : Int)].contains x) = pT 2 2 := by
  funext x
  simp [pT]
theorem pT_two : (fun x : Int => [(16 : Int), 17].contains x) = pT 16 17 := by
  funext x
  simp [pT]
theorem tdS_one {t : List Nd} (hk : chkK t = 0) : tdS t (fun x => [(2 : Int)].contains x) = kyN t (pT 2 2) 64 := by
  rw [pT_one]
  refine keys_of (fun i hi hp => fld_key (ofK_zero (chk_zero hk).1).2.2.1 hi ?_)
  simp [pT] at hp
  exact .inl hp
theorem tdS_two {t : List Nd} (hk : chkK t = 0) : tdS t (fun x => [(16 : Int), 17].contains x) = kyN t (pT 16 17) 64 := by
  rw [pT_two]
  refine keys_of (fun i hi hp => fld_key (ofK_zero (chk_zero hk).1).2.2.1 hi ?_)
  simp [pT] at hp
  exact .inr hp

/-- What Keys and Choices answer. -/
def KeyE (t : List Nd) (l : List Int) (w : World) (e : Ending) (w' : World) : Prop :=
  (chkK t ≠ 0 → e = .returned (.tuple #[.slice none 0 0, .int .i64 (chkK t)])) ∧ (chkK t = 0 → ∃ v', e = .returned (.tuple #[v', .int .i64 0]) ∧ YtadjhofomabbmaaDoor.Own w' w.heap.size v' l)
theorem told_key {t : List Nd} {l : List Int} {w : World} {zs : List Int} (hl : t.length ≤ 100) (hbd : BdT t) {v : Value} (hv : SlT w v t) (C : KndW w) (hz : zs.length ≤ 100) (hlz : chkK t = 0 → tdS t (fun x => zs.contains x) = l) :
    Calls Tryd.prog 47 #[v, .slice (some ⟨w.heap.size, 0, none⟩) zs.length zs.length] (w.alloc (.cells (zs.map (Value.int .i64)).toArray 3)) fun e w' => KeyE t l w e w' ∧ Below w.heap.size w w' := by
  have hb := newB w (.cells (zs.map (Value.int .i64)).toArray 3)
  by_cases hk : chkK t = 0
  · obtain ⟨h0, b, o, cap, rfl, hc1, hc2, hN⟩ := chk_sl hk (hv.keep hb)
    refine (told_ok t hl hbd b o cap h0 hc1 hc2 _ hN (C.keep hb) hk w.heap.size zs.length zs hz (fun j hj => ?_)).mono ?_
    · rw [World.cell?_alloc_at _ _ _ _ rfl]
      simp [List.getD, List.getElem?_eq_getElem hj]
    · rintro e w' ⟨⟨v', rfl, ho⟩, hb'⟩
      refine ⟨⟨fun h => absurd hk h, fun _ => ⟨v', rfl, ?_⟩⟩, onB hb hb'⟩
      rw [← hlz hk]
      exact own_base ho (by simp)
  · refine (told_bad t (by omega) hbd v _ (hv.keep hb) (C.keep hb) hk _).mono ?_
    rintro e w' ⟨rfl, hb'⟩
    exact ⟨⟨fun _ => rfl, fun h => absurd h hk⟩, onB hb hb'⟩
theorem key_two {t : List Nd} {l : List Int} {w : World} {e : Ending} {w' : World} (h : KeyE t l w e w') : ∃ v1 v2, e = .returned (.tuple #[v1, v2]) := by
  by_cases hk : chkK t = 0
  · obtain ⟨v', h1, _⟩ := h.2 hk
    exact ⟨_, _, h1⟩
  · exact ⟨_, _, h.1 hk⟩
set_option maxHeartbeats 1000000 in
set_option maxRecDepth 100000 in
theorem keys_any (t : List Nd) (hl : t.length ≤ 100) (hbd : BdT t) (v : Value) (w : World) (hv : SlT w v t) (C : KndW w) :
    Calls Tryd.prog 30 #[v] w fun e w' => KeyE t (kyN t (pT 2 2) 64) w e w' ∧ Below w.heap.size w w' := by
  have HT := Lib.hid (told_key (zs := [2]) hl hbd hv C (by simp) (fun hk => tdS_one hk))
  clear hv C hbd
  generalize kyN t (pT 2 2) 64 = l at *
  go_enter Tryd.func30, Tryd.ntmps30
  go_wp2_with fail
  refine HT.out.mono ?_
  rintro e w1 ⟨hk, hb1⟩
  obtain ⟨v1, v2, rfl⟩ := key_two hk
  have HK := Lib.hid hk
  clear hk
  go_wp2_with fail
  go_ret2
  exact ⟨HK.out, hb1⟩
set_option maxHeartbeats 1000000 in
set_option maxRecDepth 100000 in
theorem choices_any (t : List Nd) (hl : t.length ≤ 100) (hbd : BdT t) (v : Value) (w : World) (hv : SlT w v t) (C : KndW w) :
    Calls Tryd.prog 31 #[v] w fun e w' => KeyE t (kyN t (pT 16 17) 64) w e w' ∧ Below w.heap.size w w' := by
  have HT := Lib.hid (told_key (zs := [16, 17]) hl hbd hv C (by simp) (fun hk => tdS_two hk))
  clear hv C hbd
  generalize kyN t (pT 16 17) 64 = l at *
  go_enter Tryd.func31, Tryd.ntmps31
  go_wp2_with fail
  refine HT.out.mono ?_
  rintro e w1 ⟨hk, hb1⟩
  obtain ⟨v1, v2, rfl⟩ := key_two hk
  have HK := Lib.hid hk
  clear hk
  go_wp2_with fail
  go_ret2
  exact ⟨HK.out, hb1⟩

/-- What Depth answers. -/
noncomputable def dpK (t : List Nd) : Nat := if chkK t = 0 then dpA t 0 else 0
set_option maxHeartbeats 1000000 in
set_option maxRecDepth 100000 in
theorem tdepth_any (t : List Nd) (hl : t.length ≤ 100) (hbd : BdT t) (v : Value) (w : World) (hv : SlT w v t) (C : KndW w) :
    Calls Tryd.prog 28 #[v] w fun e w' => e = .returned (.tuple #[.int .i64 (dpK t), .int .i64 (chkK t)]) ∧ Below w.heap.size w w' := by
  have HO := Lib.hid (tcheck_any t (by omega) hbd v w hv C)
  have HV := Lib.hid hv
  have HC := Lib.hid C
  obtain ⟨r, hr⟩ : ∃ r, r = dpK t := ⟨_, rfl⟩
  obtain ⟨ck, hck⟩ : ∃ r, r = chkK t := ⟨_, rfl⟩
  have HR : Hid (ck = chkK t ∧ r = dpK t) := Lib.hid ⟨hck, hr⟩
  rw [← hr, ← hck]
  rw [← hck] at HO
  by_cases hk : ck = 0
  · obtain ⟨h0, b, o, cap, rfl, hc1, hc2, hN⟩ := chk_sl (hck.symm.trans hk) hv
    have HN := Lib.hid hN
    have HD := Lib.hid (fun w' hN' C' => depth_ok t (by omega) b o cap hc1 hc2 0 ((ofK_zero (chk_zero (hck.symm.trans hk)).1).2.1.all 0 h0) w' hN' C')
    have HR2 : Hid (r = dpA t 0) := Lib.hid (by rw [hr]; unfold dpK; rw [if_pos (hck.symm.trans hk)])
    subst hk
    clear hv C hbd hr hck hN
    generalize dpA t 0 = d at *
    go_enter Tryd.func28, Tryd.ntmps28
    go_wp2_with fail
    refine HO.out.mono ?_
    rintro e w1 ⟨rfl, hb1⟩
    have HB1 := Lib.hid hb1
    clear hb1
    go_wp2_with fail
    refine (HD.out _ (HN.out.keep HB1.out) (HC.out.keep HB1.out)).mono ?_
    rintro e w2 ⟨rfl, hb2⟩
    go_wp2_with fail
    go_ret2
    exact ⟨ret_twoT (by rw [HR2.out]) rfl, onB HB1.out hb2⟩
  · have hb : ((ck : Int) == 0) = false := beq_false_of_ne (by omega)
    have HR2 : Hid (r = 0) := Lib.hid (by rw [hr]; unfold dpK; rw [if_neg (by rw [← hck]; exact hk)])
    clear hv C hbd hr hk hck
    go_enter Tryd.func28, Tryd.ntmps28
    go_wp2_with fail
    refine HO.out.mono ?_
    rintro e w1 ⟨rfl, hb1⟩
    go_wp2_with fail
    go_ret2
    exact ⟨ret_twoT (by rw [HR2.out]; rfl) rfl, hb1⟩

/-- What Horizon answers. -/
noncomputable def hzK (t : List Nd) : Int := if chkK t = 0 then hzN t t.length else 0
set_option maxHeartbeats 4000000 in
set_option maxRecDepth 100000 in
theorem horizon_any (t : List Nd) (hl : t.length ≤ 100) (hbd : BdT t) (v : Value) (w : World) (hv : SlT w v t) (C : KndW w) :
    Calls Tryd.prog 29 #[v] w fun e w' => e = .returned (.tuple #[.int .i64 (hzK t), .int .i64 (chkK t)]) ∧ Below w.heap.size w w' := by
  have HO := Lib.hid (tcheck_any t (by omega) hbd v w hv C)
  have HV := Lib.hid hv
  obtain ⟨r, hr⟩ : ∃ r, r = hzK t := ⟨_, rfl⟩
  obtain ⟨ck, hck⟩ : ∃ r, r = chkK t := ⟨_, rfl⟩
  rw [← hr, ← hck]
  rw [← hck] at HO
  by_cases hk : ck = 0
  · obtain ⟨h0, b, o, cap, rfl, hc1, hc2, hN⟩ := chk_sl (hck.symm.trans hk) hv
    have HN := Lib.hid hN
    have HR2 : Hid (r = hzN t t.length) := Lib.hid (by rw [hr]; unfold hzK; rw [if_pos (hck.symm.trans hk)])
    have h4 : (t.length : Int) ≤ (cap : Int) := by omega
    subst hk
    clear hv C hbd hr hck hN
    go_enter Tryd.func29, Tryd.ntmps29
    go_wp2_with fail
    refine HO.out.mono ?_
    rintro e w1 ⟨rfl, hb1⟩
    have HB1 := Lib.hid hb1
    clear hb1
    go_wp2_with fail
    go_loopw [5, 15] (fun vm vk wx => ∃ k : Nat, k ≤ t.length ∧ vk = .int .i64 k ∧ vm = .int .i64 (hzN t k) ∧ Below w.heap.size w wx) (fun _ vk _ => t.length - (RowKit.intOf vk).toNat)
    case atStart => exact ⟨0, Nat.zero_le _, rfl, rfl, HB1.out⟩
    case round =>
      obtain ⟨k, hk, rfl, rfl, hb⟩ := hrel
      have HB := Lib.hid hb
      by_cases hlt : k < t.length
      · have j0 : (0 : Int) ≤ (k : Int) := by omega
        have j1 : (k : Int) < (t.length : Int) := by omega
        have hnc := (HN.out.keep hb) k hlt
        obtain ⟨nd, hnd⟩ : ∃ nd, nd = t.getD k default := ⟨_, rfl⟩
        rw [← hnd] at hnc
        have HLs : Hid (hzN t (k + 1) = if nd.op = 14 then max (hzN t k) nd.a else if nd.op = 17 then max (hzN t k) nd.b else hzN t k) := Lib.hid (by rw [hnd]; rfl)
        obtain ⟨e0, e1, e2, e3, e4⟩ := hnc
        clear hb hnd
        generalize hzN t k = m at *
        have hB := onB HB.out (newB wr (.cells #[.int .i64 nd.op, .int .i64 nd.a, .int .i64 nd.b, .int .i64 nd.num, .int .i64 nd.den] 55))
        have HBn := Lib.hid hB
        clear hB
        by_cases h14 : nd.op = 14
        · have b1 : (nd.op == 14) = true := by simp [h14]
          rw [if_pos h14] at HLs
          clear h14
          go_wp2_with fail
          go_roundw
          case rel => exact ⟨k + 1, by omega, by go_num, by rw [HLs.out], HBn.out⟩
          case measure => simp [RowKit.intOf]; omega
        · have b1 : (nd.op == 14) = false := beq_false_of_ne h14
          rw [if_neg h14] at HLs
          clear h14
          by_cases h17 : nd.op = 17
          · have b2 : (nd.op == 17) = true := by simp [h17]
            rw [if_pos h17] at HLs
            clear h17
            go_wp2_with fail
            go_roundw
            case rel => exact ⟨k + 1, by omega, by go_num, by rw [HLs.out], HBn.out⟩
            case measure => simp [RowKit.intOf]; omega
          · have b2 : (nd.op == 17) = false := beq_false_of_ne h17
            rw [if_neg h17] at HLs
            clear h17
            go_wp2_with fail
            go_roundw
            case rel => exact ⟨k + 1, by omega, by go_num, by rw [HLs.out], HBn.out⟩
            case measure => simp [RowKit.intOf]; omega
      · obtain rfl : k = t.length := by omega
        clear hb
        go_wp2_with fail
        go_ret2
        exact ⟨ret_twoT (by rw [HR2.out]) rfl, HB.out⟩
  · have hb : ((ck : Int) == 0) = false := beq_false_of_ne (by omega)
    have HR2 : Hid (r = 0) := Lib.hid (by rw [hr]; unfold hzK; rw [if_neg (by rw [← hck]; exact hk)])
    clear hv C hbd hr hk hck
    go_enter Tryd.func29, Tryd.ntmps29
    go_wp2_with fail
    refine HO.out.mono ?_
    rintro e w1 ⟨rfl, hb1⟩
    go_wp2_with fail
    go_ret2
    exact ⟨ret_twoT (by rw [HR2.out]) rfl, hb1⟩

set_option maxHeartbeats 8000000 in
set_option maxRecDepth 100000 in
theorem rkeys_main (t : List Nd) (hl : t.length ≤ 100) (b o cap : Nat) (hcap : t.length ≤ cap) (hcm : cap ≤ 9223372036854775807) (o1 o2 : Int) (w : World) (hN : NdA w b o t) :
    Calls Tryd.prog 33 #[.slice (some ⟨b, o, none⟩) t.length cap, .int .i64 o1, .int .i64 o2] w fun e w' => ∃ v', e = .returned v' ∧ YtadjhofomabbmaaDoor.Own w' w.heap.size v' (kyN t (pT o1 o2) 64) ∧ Below w.heap.size w w' := by
  have HN := Lib.hid hN
  obtain ⟨i0, hi0, hz0, hz1, hz2⟩ := info_parts infoIT
  have h4 : (t.length : Int) ≤ (cap : Int) := by omega
  obtain ⟨c64, hc64⟩ : ∃ c : Nat, c = 64 := ⟨_, rfl⟩
  clear hN
  go_enter Tryd.func33, Tryd.ntmps33
  go_wp2_with fail
  go_loopw [7, 8] (fun vo vk wx => ∃ k : Nat, k ≤ 64 ∧ vk = .int .i64 k ∧ YtadjhofomabbmaaDoor.Own wx w.heap.size vo (kyN t (pT o1 o2) k) ∧ Below w.heap.size w wx) (fun _ vk _ => 64 - (RowKit.intOf vk).toNat)
  case atStart => exact ⟨0, Nat.zero_le _, rfl, YtadjhofomabbmaaDoor.Own.nil _ _, Below.refl _ _⟩
  case round =>
    obtain ⟨k, hk, rfl, hown, hb⟩ := hrel
    have HB := Lib.hid hb
    have HOw := Lib.hid hown
    by_cases hlt : k < 64
    · have k1 : (k : Int) < 64 := by omega
      have hll := kyN_len t (pT o1 o2) k
      have HLs : Hid (kyN t (pT o1 o2) (k + 1) = kyN t (pT o1 o2) k ++ (if isN t (pT o1 o2) k t.length = true then [(k : Int)] else [])) := Lib.hid rfl
      clear hb hown
      go_wp2_with fail
      go_loopw [9, 10] (fun vb vi wx => ∃ i : Nat, i ≤ t.length ∧ vi = .int .i64 i ∧ vb = .bool (isN t (pT o1 o2) k i) ∧ wx = wr) (fun _ vi _ => t.length - (RowKit.intOf vi).toNat)
      case atStart => exact ⟨0, Nat.zero_le _, rfl, rfl, rfl⟩
      case round =>
        obtain ⟨i, hi, rfl, rfl, rfl⟩ := hrel
        by_cases hlti : i < t.length
        · have j0 : (0 : Int) ≤ (i : Int) := by omega
          have j1 : (i : Int) < (t.length : Int) := by omega
          have hnc := (HN.out.keep HB.out) i hlti
          obtain ⟨nd, hnd⟩ : ∃ nd, nd = t.getD i default := ⟨_, rfl⟩
          rw [← hnd] at hnc
          have HIs : Hid (isN t (pT o1 o2) k (i + 1) = (isN t (pT o1 o2) k i || ((decide (nd.op = o1) || decide (nd.op = o2)) && decide (nd.a = (k : Int))))) := Lib.hid (by rw [hnd]; rfl)
          obtain ⟨e0, e1, e2, e3, e4⟩ := hnc
          have HBr := Lib.hid hlti
          clear hnd
          generalize isN t (pT o1 o2) k i = s at *
          cases s with
          | true =>
            go_wp2_with fail
            go_roundw
            case rel => exact ⟨i + 1, by omega, by go_num, by rw [HIs.out]; rfl, by first | rfl | trivial⟩
            case measure => simp [RowKit.intOf]; omega
          | false =>
            by_cases ho1 : nd.op = o1
            · have b1 : (nd.op == o1) = true := beq_iff_eq.2 ho1
              have HIs2 : Hid (isN t (pT o1 o2) k (i + 1) = (nd.a == (k : Int))) := Lib.hid (by rw [HIs.out, decide_eq_true ho1]; rfl)
              clear ho1
              go_wp2_with fail
              go_roundw
              case rel => exact ⟨i + 1, by omega, by go_num, by rw [HIs2.out], by first | rfl | trivial⟩
              case measure => simp [RowKit.intOf]; omega
            · have b1 : (nd.op == o1) = false := beq_false_of_ne ho1
              by_cases ho2 : nd.op = o2
              · have b2 : (nd.op == o2) = true := beq_iff_eq.2 ho2
                have HIs2 : Hid (isN t (pT o1 o2) k (i + 1) = (nd.a == (k : Int))) := Lib.hid (by rw [HIs.out, decide_eq_false ho1, decide_eq_true ho2]; rfl)
                clear ho1 ho2
                go_wp2_with fail
                go_roundw
                case rel => exact ⟨i + 1, by omega, by go_num, by rw [HIs2.out], by first | rfl | trivial⟩
                case measure => simp [RowKit.intOf]; omega
              · have b2 : (nd.op == o2) = false := beq_false_of_ne ho2
                have HIs2 : Hid (isN t (pT o1 o2) k (i + 1) = false) := Lib.hid (by rw [HIs.out, decide_eq_false ho1, decide_eq_false ho2]; rfl)
                clear ho1 ho2
                go_wp2_with fail
                go_roundw
                case rel => exact ⟨i + 1, by omega, by go_num, by rw [HIs2.out], by first | rfl | trivial⟩
                case measure => simp [RowKit.intOf]; omega
        · obtain rfl : i = t.length := by omega
          by_cases hs : isN t (pT o1 o2) k t.length = true
          · rw [hs]
            rw [if_pos hs] at HLs
            clear hs
            have hown := HOw.out
            have hs1 := HB.out.size
            generalize kyN t (pT o1 o2) k = l at *
            have h63 : l.length + 1 ≤ maxLen := by unfold maxLen; omega
            have hby : (l.length + 1) * 8 ≤ 140737488355328 := by omega
            go_wp2_with (at_builtin; refine wpList_append_own _ rfl _ _ 31 rfl w.heap.size 3 i0 (.int .i64 0) 1 8 Tryd.underlying31 hi0 hz0 hz1 hz2 rfl (by decide) _ _ _ rfl (hown.alloc _) ⟨wr.heap.size, 0, none⟩ 1 1 [.int .i64 (k : Int)] rfl rfl (one_cell wr _ _) (one_one _) h63 hby (by simp; omega) ?_; intro v' w2 hown' hgrow _)
            have HO2 := Lib.hid (own_snoc hown')
            have HB3 := Lib.hid (below_append HB.out hown (Nat.le_refl _) hs1 hgrow)
            clear hown hown' hgrow hs1
            go_wp2_with fail
            go_roundw
            case rel => exact ⟨k + 1, by omega, by go_num, by rw [HLs.out]; exact HO2.out, HB3.out⟩
            case measure => simp [RowKit.intOf]; omega
          · have hs' : isN t (pT o1 o2) k t.length = false := by simpa using hs
            rw [hs']
            rw [if_neg hs, List.append_nil] at HLs
            clear hs
            go_wp2_with fail
            go_roundw
            case rel => exact ⟨k + 1, by omega, by go_num, by rw [HLs.out]; exact HOw.out, HB.out⟩
            case measure => simp [RowKit.intOf]; omega
    · obtain rfl : k = 64 := by omega
      go_wp2_with fail
      go_ret
      exact ⟨_, rfl, HOw.out, HB.out⟩

end Go.Proofs.YtadjhofomabbmaaDoor
