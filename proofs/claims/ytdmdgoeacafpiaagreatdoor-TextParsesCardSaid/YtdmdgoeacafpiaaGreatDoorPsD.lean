/-
  Package text: the iterator over a text's tokens: its contract.
-/
import Derived.Test.YtdmdgoeacafpiaaGreatDoorPq
import Derived.Test.YtdmdgoeacafpiaaGreatDoorTrm
namespace Go.Proofs.YtdmdgoeacafpiaaGreatDoor
open Go.RowKit Go.Lib Go.Shelf
set_option linter.unusedVariables false
set_option linter.unusedSimpArgs false
attribute [local go_sem] Oper.semAt_some

/-- What a round that goes on keeps: the reader's box, and its text. -/
def KpR (Br B : Nat) (W W' : World) : Prop := (∀ v, W.cell? ⟨Br, 0, none⟩ = some v → W'.cell? ⟨Br, 0, none⟩ = some v) ∧ (∀ v, W.cell? ⟨B, 0, none⟩ = some v → W'.cell? ⟨B, 0, none⟩ = some v)
theorem KpR.refl (Br B : Nat) (W : World) : KpR Br B W W := ⟨fun _ h => h, fun _ h => h⟩
theorem KpR.trans {Br B : Nat} {X Y Z : World} (h : KpR Br B X Y) (k : KpR Br B Y Z) : KpR Br B X Z := ⟨fun v hv => k.1 v (h.1 v hv), fun v hv => k.2 v (h.2 v hv)⟩
theorem KpR.put {Br B : Nat} (W : World) (l : Nat) (o o' : Obj) (hl : W.heap[l]? = some o) (hc : o.isCells = false) : KpR Br B W (W.putObj l o') :=
  ⟨fun v hv => cell_kept hv (grownBy_putObj' W l o') (fun r e => by cases e; exact ⟨o, hl, hc⟩), fun v hv => cell_kept hv (grownBy_putObj' W l o') (fun r e => by cases e; exact ⟨o, hl, hc⟩)⟩
/-- What yield is called with. -/
def encK (T : List Tk) (c : Nat) (x : Fin c) : Array Value := #[.int .i64 ((T.getD x.1 default).1 : Nat), .string ⟨(T.getD x.1 default).2.toArray⟩]
theorem gl_done (l : List UInt8) : gl (l.drop (gl l)) = 0 := by
  induction l with
  | nil => rfl
  | cons c r ih =>
    rw [gl_cons]
    by_cases h : gapB c = true
    · rw [if_pos h, List.drop_succ_cons]; exact ih
    · rw [if_neg h, List.drop_zero, gl_cons, if_neg h]
theorem gl_le (l : List UInt8) : gl l ≤ l.length := by unfold gl; exact (List.takeWhile_prefix _).length_le
theorem cut_bytes (s : ByteArray) (a n : Nat) : s.extract a (a + n) = ⟨((s.data.toList.drop a).take n).toArray⟩ := by
  apply ByteArray.ext
  rw [ByteArray.data_extract]
  apply Array.toList_inj.1
  rw [Array.toList_extract, List.extract_eq_take_drop]
  simp

theorem tokens_make (p : Addr) (w : World) : Calls Tryz.prog 18 #[.pointer (some p)] w fun e w' => e = .returned (.func (.func 43) #[] #[.pointer (some ⟨w.heap.size, 0, none⟩)]) ∧ w' = w.alloc (.cells #[.pointer (some p)] 74) := by
  go_enter Tryz.func18, Tryz.ntmps18
  go_wp2_with fail
  go_ret
  exact ⟨rfl, rfl⟩

set_option maxRecDepth 100000 in
set_option maxHeartbeats 4000000 in
theorem tokens_in (F : Fence) (n : Nat) (hF : F = Fence.wide) (l Br B : Nat) (s : ByteArray) (hs : s.size ≤ 3000) (T : List Tk) (hT : T = toks 0 s.data.toList) (c : Nat) (hc : c = T.length) (J Jx : List (Fin c) → World → Prop)
    (hY : ∀ pre x W, J pre W → pre.length < c → YieldAt F (n - 1) Tryz.prog l (encK T c x) W fun e W' =>
      (e = .returned (.bool true) ∧ J (pre ++ [x]) W' ∧ KpR Br B W W') ∨ (e = .returned (.bool false) ∧ Jx (pre ++ [x]) W'))
    (W : World) (hBr : W.cell? ⟨Br, 0, none⟩ = some (.pointer (some ⟨B, 0, none⟩))) (hB : W.cell? ⟨B, 0, none⟩ = some (.string s)) (h0 : J [] W) :
    CallsIn F n Tryz.prog 43 #[.func (.yield l) #[] #[], .pointer (some ⟨Br, 0, none⟩)] W fun e W' => (∃ v, e = .returned v) ∧
      ((∃ ys, ys = upF c c (Nat.le_refl _) ∧ J ys W') ∨ (∃ pre, (∃ k h, pre = upF c k h) ∧ Jx pre W')) := by
  subst hF
  have HY := Lib.hid hY
  have HT := Lib.hid hT
  have HC := Lib.hid hc
  have H0 := Lib.hid h0
  have HK := Lib.hid (fun (w : World) (hw : w.cell? ⟨B, 0, none⟩ = some (.string s)) => skip_any s hs B 0 (Nat.zero_le _) w hw)
  have hg0 := gl_le (s.data.toList.drop 0)
  rw [List.drop_zero] at hg0
  have hlen : s.data.toList.length = s.size := by simp
  have HG0 : Hid (0 + gl (s.data.toList.drop 0) ≤ s.size ∧ toks (0 + gl (s.data.toList.drop 0)) (s.data.toList.drop (0 + gl (s.data.toList.drop 0))) = T.drop 0 ∧ gl (s.data.toList.drop (0 + gl (s.data.toList.drop 0))) = 0) := Lib.hid (by
    rw [List.drop_zero, Nat.zero_add, List.drop_zero, hT]
    refine ⟨by omega, ?_, gl_done _⟩
    have := toks_skip s.data.toList 0
    rw [Nat.zero_add] at this; exact this.symm)
  generalize 0 + gl (s.data.toList.drop 0) = a0 at HK HG0
  clear hY hT hc h0 hg0 hlen
  refine callsIn_of_wp Tryz.func43 rfl trivial ?_ rfl
  simp only [Tryz.ntmps43, List.size_toArray, List.length_cons, List.length_nil, Nat.reduceAdd, Nat.reduceSub, Array.replicate_succ, Array.replicate_zero, List.push_toArray, List.append_toArray, List.nil_append, List.cons_append]
  gi_wp2
  refine wide_in (HK.out _ hB) ?_
  rintro e w1 ⟨rfl, rfl⟩
  gi_wp2
  gi_loopw [3] (fun va wx => ∃ (k : Nat) (hk : k ≤ c) (a : Nat), a ≤ s.size ∧ va = .int .i64 a ∧ toks a (s.data.toList.drop a) = T.drop k ∧ gl (s.data.toList.drop a) = 0 ∧ J (upF c k hk) wx ∧ KpR Br B W wx) (fun va _ => 4000 - (RowKit.intOf va).toNat)
  case atStart => exact ⟨0, Nat.zero_le _, a0, HG0.out.1, rfl, HG0.out.2.1, HG0.out.2.2, H0.out, KpR.refl _ _ _⟩
  case round =>
    obtain ⟨k, hk, a, ha, rfl, htk, hgl, hJ, hkp⟩ := hrel
    have HKp := Lib.hid hkp
    have HJ := Lib.hid hJ
    have hr1 := hkp.1 _ hBr
    have hb1 := hkp.2 _ hB
    by_cases hlt : a < s.size
    · have hd := drop_byte s a hlt
      rw [hd, gl_cons] at hgl
      have hgb : gapB s[a] = false := by
        cases e : gapB s[a] with
        | false => rfl
        | true => rw [e, if_pos rfl] at hgl; omega
      obtain ⟨t1, t2, t3⟩ := toks_here s a hlt hgb
      have HEn := Lib.hid (fun (w : World) (hw : w.cell? ⟨B, 0, none⟩ = some (.string s)) => end_any s hs B a hlt w hw)
      generalize (if mkB s[a] = true then 1 else wl (s.data.toList.drop a)) = m at *
      rw [htk] at t1
      have hkc : k < c := by
        rcases Nat.lt_or_ge k c with h | h
        · exact h
        · have e : T.drop k = [] := List.drop_of_length_le (by rw [← HC.out]; exact h)
          rw [e] at t1; cases t1
      have hkT : k < T.length := by rw [← HC.out]; exact hkc
      rw [List.drop_eq_getElem_cons hkT] at t1
      injection t1 with t4 t5
      have hgd : T.getD k default = (a, (s.data.toList.drop a).take m) := by rw [List.getD_eq_getElem?_getD, List.getElem?_eq_getElem hkT]; exact t4
      have hy := HY.out _ ⟨k, hkc⟩ wr hJ (by rw [upF_length]; exact hkc)
      rw [show encK T c ⟨k, hkc⟩ = #[.int .i64 (a : Nat), .string (s.extract a (a + m))] by unfold encK; dsimp only; rw [hgd, cut_bytes]] at hy
      have HSk := Lib.hid (fun (w : World) (hw : w.cell? ⟨B, 0, none⟩ = some (.string s)) => skip_any s hs B (a + m) t3 w hw)
      have HN : Hid (a + m + gl (s.data.toList.drop (a + m)) ≤ s.size ∧ toks (a + m + gl (s.data.toList.drop (a + m))) (s.data.toList.drop (a + m + gl (s.data.toList.drop (a + m)))) = T.drop (k + 1) ∧ gl (s.data.toList.drop (a + m + gl (s.data.toList.drop (a + m)))) = 0) := Lib.hid (by
        have h1 := gl_le (s.data.toList.drop (a + m))
        rw [List.length_drop, show s.data.toList.length = s.size by simp] at h1
        refine ⟨by omega, ?_, ?_⟩
        · rw [t5, toks_skip (s.data.toList.drop (a + m)) (a + m), List.drop_drop]
        · rw [← List.drop_drop]; exact gl_done _)
      have hAN : ∀ N, N = a + m + gl (s.data.toList.drop (a + m)) → a < N ∧ N ≤ 3000 := fun N e => by have := HN.out.1; omega
      have HAN := Lib.hid hAN
      generalize hN : a + m + gl (s.data.toList.drop (a + m)) = N at *
      have HAN' := HAN.out N rfl
      have b2 : a ≤ a + m := by omega
      generalize hq : a + m = q at *
      clear hq hAN HAN hN hJ hkp htk hgl t4 t5 hgd hd hgb
      obtain ⟨fn, tmps, assign, body, hy, hR⟩ := hy
      have a0 : (0 : Int) ≤ (a : Int) := by omega
      have a1 : (a : Int) < (s.size : Int) := by omega
      have a2 : (a : Int) ≤ (q : Int) := by omega
      have a3 : (q : Int) ≤ (s.size : Int) := by omega
      gi_wp2
      refine wide_in (HEn.out _ hb1) ?_
      rintro e w2 ⟨rfl, rfl⟩
      gi_wp2
      refine ⟨fun h => (by cases h), hR.mono ?_⟩
      rintro e W3 (⟨rfl, hJ3, hk3⟩ | ⟨rfl, hJx3⟩)
      · have HJ3 := Lib.hid hJ3
        have HK3 := Lib.hid (HKp.out.trans hk3)
        have hr3 := hk3.1 _ hr1
        have hb3 := hk3.2 _ hb1
        clear hJ3 hk3 hR
        gi_wp2
        refine wide_in (HSk.out _ hb3) ?_
        rintro e W4 ⟨rfl, rfl⟩
        gi_wp2
        go_roundw
        case rel => exact ⟨k + 1, hkc, N, HN.out.1, rfl, HN.out.2.1, HN.out.2.2, HJ3.out, HK3.out⟩
        case measure => simp [RowKit.intOf]; omega
      · clear hR
        have HX := Lib.hid hJx3
        clear hJx3
        gi_wp2
        refine bodyPost_ret (results_none rfl _ _ _) rfl ?_
        exact ⟨⟨_, rfl⟩, .inr ⟨_, ⟨k + 1, hkc, rfl⟩, HX.out⟩⟩
    · have hae : a = s.size := by omega
      rw [hae, List.drop_of_length_le (by simp)] at htk
      have hkc : k = c := by
        have e : T.drop k = [] := htk.symm
        have := List.drop_eq_nil_iff.1 e
        rw [← HC.out] at this
        omega
      subst hkc
      have a1 : ¬ (a : Int) < (s.size : Int) := by omega
      clear hJ hkp htk hgl hae
      gi_wp2
      go_end0
      first
        | exact ⟨⟨_, rfl⟩, .inl ⟨_, rfl, HJ.out⟩⟩
        | exact ⟨⟨_, rfl⟩, .inl HJ.out⟩

/-- The iterator has its contract. -/
theorem tokens_stops (n : Nat) (Br B : Nat) (s : ByteArray) (hs : s.size ≤ 3000) (T : List Tk) (hT : T = toks 0 s.data.toList) (c : Nat) (hc : c = T.length) (w : World)
    (hBr : w.cell? ⟨Br, 0, none⟩ = some (.pointer (some ⟨B, 0, none⟩))) (hB : w.cell? ⟨B, 0, none⟩ = some (.string s)) :
    SeqStopsK Fence.wide n Tryz.prog 43 #[.pointer (some ⟨Br, 0, none⟩)] (encK T c) (KpR Br B) (fun ys => ys = upF c c (Nat.le_refl _)) (fun pre => ∃ k h, pre = upF c k h) c w := fun l J Jx W hW hJ' hJx hY h0 =>
  tokens_in _ n rfl l Br B s hs T hT c hc J Jx hY W (keepT hW hBr) (keepT hW hB) h0

end Go.Proofs.YtdmdgoeacafpiaaGreatDoor
