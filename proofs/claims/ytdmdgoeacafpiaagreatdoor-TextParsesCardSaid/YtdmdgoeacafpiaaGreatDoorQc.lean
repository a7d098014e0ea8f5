/-
  chattelref06: the reader's Term: what it answers.
-/
import Derived.Test.YtdmdgoeacafpiaaGreatDoorQa
import Derived.Test.YtdmdgoeacafpiaaGreatDoorQb
import Derived.Test.YtdmdgoeacafpiaaGreatDoorPsO
import Derived.Test.YtdmdgoeacafpiaaGreatDoorPq
import Derived.Test.YtdmdgoeacafpiaaGreatDoorPsR
import Derived.Test.YtdmdgoeacafpiaaGreatDoorFrame
namespace Go.Proofs.YtdmdgoeacafpiaaGreatDoor
open Go.RowKit Go.Lib
set_option linter.unusedVariables false

theorem rterm_step (d : Nat) (hd1 : 1 ≤ d) (hd : d ≤ 13) (IH : d ≤ 12 → TermC (d + 1)) : TermC d := by
  intro P B K z n s D w m hT h hg hDD hs ho
  obtain ⟨N, o, mD⟩ := m
  dsimp only at h hg hDD ho
  subst hDD ho
  by_cases hq : n < K.length
  · by_cases hb : opW (tkW K n) = 0 ∨ mkT.getD (opW (tkW K n)) 0 ≠ s ∨ (64 ≤ N.length ∨ 12 < d)
    · exact rterm_wrong d hd1 hd IH P B K z n s D w N hT h hg hs hq (Lib.hid hb)
    · have h0 : opW (tkW K n) ≠ 0 := fun e => hb (.inl e)
      have h1 : mkT.getD (opW (tkW K n)) 0 = s := Classical.byContradiction fun e => hb (.inr (.inl e))
      have h2 : ¬ (64 ≤ N.length ∨ 12 < d) := fun e => hb (.inr (.inr e))
      by_cases c2 : opW (tkW K n) = 2
      · exact rterm_fix d hd1 hd IH P B K z n s D w N hT h hg hs hq (Lib.hid h0) (Lib.hid h1) (Lib.hid h2) (Lib.hid c2)
      by_cases c16 : opW (tkW K n) = 16
      · exact rterm_or d hd1 hd IH P B K z n s D w N hT h hg hs hq (Lib.hid h0) (Lib.hid h1) (Lib.hid h2) (Lib.hid c16)
      by_cases c17 : opW (tkW K n) = 17
      · exact rterm_any d hd1 hd IH P B K z n s D w N hT h hg hs hq (Lib.hid h0) (Lib.hid h1) (Lib.hid h2) (Lib.hid c17)
      by_cases c10 : opW (tkW K n) = 10
      · exact rterm_one d hd1 hd IH P B K z n s D w N hT h hg hs hq (Lib.hid h0) (Lib.hid h1) (Lib.hid h2) (Lib.hid c10)
      by_cases c14 : opW (tkW K n) = 14
      · exact rterm_when d hd1 hd IH P B K z n s D w N hT h hg hs hq (Lib.hid h0) (Lib.hid h1) (Lib.hid h2) (Lib.hid c14)
      exact rterm_plain d hd1 hd IH P B K z n s D w N hT h hg hs hq (Lib.hid h0) (Lib.hid h1) (Lib.hid h2) (Lib.hid ⟨c2, c16, c17, c10, c14⟩)
  · exact rterm_none d hd1 hd IH P B K z n s D w N hT h hg hs hq

end Go.Proofs.YtdmdgoeacafpiaaGreatDoor

namespace Go.Proofs.YtdmdgoeacafpiaaGreatDoor
open Go.RowKit Go.Lib
set_option linter.unusedVariables false
set_option linter.unusedSimpArgs false

theorem termC_all : ∀ j d, d + j = 14 → 1 ≤ d → d ≤ 13 → TermC d
  | 0, d, h, _, hd => by omega
  | j + 1, d, h, h1, hd => rterm_step d h1 hd (fun h12 => termC_all j (d + 1) (by omega) (by omega) (by omega))
theorem OwnK.down {w : World} {a b : Nat} {v : Value} {t : List Tk} (h : OwnK w b v t) (hab : a ≤ b) : OwnK w a v t := by
  obtain ⟨h1, h2⟩ := h
  refine ⟨h1, ?_⟩
  rcases h2 with h2 | ⟨g, cap, cur, rfl, hb, h3⟩
  · exact .inl h2
  · exact .inr ⟨g, cap, cur, rfl, Nat.le_trans hab hb, h3⟩
/-- The reader as Parse makes it. -/
theorem rdM_new {w : World} {v : Value} {K : List Tk} (z : Nat) (ho : OwnK w 0 v K) (ty : TypeId) :
    RdM (w.alloc (.cells #[v, .int .i64 0, .int .i64 0, .slice none 0 0, .int .i64 (z : Nat)] ty)) (· < w.heap.size) w.heap.size K z 0 0 [] := by
  refine ⟨v, .slice none 0 0, ?_, ?_, ?_, ?_, ?_, ?_, World.ownsRow.alloc ho _, OwnN.nil _ _, fun k hk => ?_, fun k hk => ?_, ?_, fun k hk => ?_⟩
  · rw [World.cell?_alloc_at _ _ _ _ rfl]; rfl
  · rw [World.cell?_alloc_at _ _ _ _ rfl]; rfl
  · rw [World.cell?_alloc_at _ _ _ _ rfl]; rfl
  · rw [World.cell?_alloc_at _ _ _ _ rfl]; rfl
  · rw [World.cell?_alloc_at _ _ _ _ rfl]; rfl
  · exact fun i => World.frozen?_alloc_at _ _ _ _ rfl
  · have := (World.ownsRow.lt ho k hk).2
    exact ⟨this, this⟩
  · cases hk
  · exact Nat.lt_irrefl _
  · have hk' : k < w.heap.size := hk
    simp; omega
theorem toks_ok (l : List UInt8) (h : l.length ≤ 3000) : TkOk (toks 0 l) := by
  refine ⟨by have := toks_len l 0; omega, fun k hk => ?_⟩
  have := tok_ne l 0 (toks 0 l)[k] (List.getElem_mem _)
  unfold tkW
  rw [List.getD_eq_getElem?_getD, List.getElem?_eq_getElem hk]
  refine ⟨this.1, ?_⟩
  have h2 := this.2.1
  show (toks 0 l)[k].2.length ≤ _
  omega
set_option maxRecDepth 100000 in
set_option maxHeartbeats 2000000 in
theorem rparse6_any (s : ByteArray) (hs : s.size ≤ 3000) (w : World) :
    Calls Tryz.prog 8 #[.string s] w fun e w' => ∃ v, e = .returned (.tuple #[v, .int .i64 (parT s.data.toList).2.1, .int .i64 (parT s.data.toList).2.2]) ∧ SlT w' v (parT s.data.toList).1 ∧ Below w.heap.size w w' := by
  have HTk := Lib.hid (rtoks_any s hs w)
  have hl : s.data.toList.length ≤ 3000 := by rw [size_len] at hs; exact hs
  have HOk := Lib.hid (toks_ok s.data.toList hl)
  have HS : Hid ((s.data.toList.length : Nat) = s.size) := Lib.hid (by rw [size_len])
  clear hs hl
  go_enter Tryz.func8, Tryz.ntmps8
  go_wp2_with fail
  refine (HTk.out).mono ?_
  rintro e w1 ⟨v, rfl, ho, hb1⟩
  obtain ⟨va, vc, rfl⟩ := ho.slice
  have HR := Lib.hid (rdM_new s.size (ho.down (Nat.zero_le _)) 46)
  have HB1 := Lib.hid (hb1.size)
  have HBw := Lib.hid hb1
  have HTm := Lib.hid (termC_all 13 1 rfl (by decide) (by decide) (· < w1.heap.size) w1.heap.size (toks 0 s.data.toList) s.size 0 2 [] _ m0 HOk.out HR.out (Gd.start _) rfl (.inr rfl) rfl)
  have HNB := Lib.hid (newB w1 (.cells #[.slice va (toks 0 s.data.toList).length vc, .int .i64 0, .int .i64 0, .slice none 0 0, .int .i64 (s.size : Nat)] 46))
  clear ho hb1 HTk
  go_wp2_with fail
  refine (HTm.out).mono ?_
  rintro e w2 ⟨rfl, n, E, T, hm, hk, ht⟩
  have HM := Lib.hid hm
  have HK := Lib.hid (onB HBw.out (HNB.out.trans (hk.below (n := w1.heap.size) (fun k hk => hk))))
  clear hk HTm HR HNB HBw hm
  rcases ht with ⟨rfl, m, hg, rfl, hmo, hmD⟩ | ⟨hE, j, rfl, hw⟩
  · have HG := Lib.hid hg
    have hn : n ≤ 3000 := by have := hg.1; have h2 := HOk.out.1; rw [List.length_map] at this; omega
    by_cases q : n < (toks 0 s.data.toList).length
    · have HP := Lib.hid (wr_par (gd_more hg hmD (by rw [List.length_map]; exact q)))
      rw [if_pos q] at HP
      have HPl : Hid (∀ w' T', RdM w' (· < w1.heap.size) w1.heap.size (toks 0 s.data.toList) s.size (n + 1) 13 T' → Calls Tryz.prog 14 #[.pointer (some ⟨w1.heap.size, 0, none⟩)] w' fun en w'' => en = .returned (.int .i64 (((toks 0 s.data.toList).getD n default).1 : Nat)) ∧ Below w'.heap.size w' w'') := Lib.hid (fun w' T' h => by
        have := rplace_any _ _ _ _ n 13 T' (by omega) w' h
        rwa [if_pos q] at this)
      have HM3 := Lib.hid (((HM.out.setN ((n : Int) + 1) (n + 1) (by omega)).setE 13 13 rfl).drews)
      obtain ⟨vk, vt, hr⟩ := HM.out
      obtain ⟨ka, kc, rfl⟩ := hr.hk.slice
      have c0 := hr.c0
      have c1 := hr.c1
      have c2 := hr.c2
      have f1 := hr.fr 1
      have f2 := hr.fr 2
      have q1 : (n : Int) < ((toks 0 s.data.toList).length : Int) := by omega
      have HB3 : Hid (Below w.heap.size w ((w2.setCell ⟨w1.heap.size, 1, none⟩ (.int .i64 ((n : Int) + 1))).setCell ⟨w1.heap.size, 2, none⟩ (.int .i64 13)).drew) := Lib.hid (Below.drew (Below.setCell (Below.setCell HK.out HB1.out _) HB1.out _))
      clear hr hg hmD hmo q
      generalize (toks 0 s.data.toList) = K at *
      go_wp2_with fail
      go_region
      go_wp2_with fail
      generalize ((w2.setCell ⟨w1.heap.size, 1, none⟩ (.int .i64 ((n : Int) + 1))).setCell ⟨w1.heap.size, 2, none⟩ (.int .i64 13)).drew = W at *
      have HPw := Lib.hid (HPl.out W.drew _ HM3.out.drews)
      clear c0 c1 c2 f1 f2 q1 HPl
      have c2 := HM3.out.cells.2.1
      go_region_with (go_at_call 14; (with_reducible refine HPw.out.mono ?_); rintro e w3 ⟨rfl, hb3⟩; have HB4 := Lib.hid (onB HB3.out (undrewB hb3)); have c3 := (HM3.out.drews.keep hb3).cells.2.1; clear hb3)
      all_goals
        go_wp2_with fail
        exact bodyPost_ret (v := .tuple #[.slice none 0 0, .int .i64 ((K.getD n default).1 : Nat), .int .i64 13]) (by simp [results, Tryz.results8, go_sem]) rfl ⟨.slice none 0 0, by rw [HP.out]; rfl, by rw [HP.out]; exact .inl ⟨rfl, _, _, rfl⟩, HB4.out⟩
    · have HP := Lib.hid (gd_par hg hmD q)
      obtain ⟨vk, vt, hr⟩ := HM.out
      obtain ⟨ka, kc, rfl⟩ := hr.hk.slice
      have c0 := hr.c0
      have c1 := hr.c1
      have c2 := hr.c2
      have c3 := hr.c3
      have HV := Lib.hid hr.ht.sl
      have q1 : ¬ (n : Int) < ((toks 0 s.data.toList).length : Int) := by omega
      clear hr hg hmD hmo q
      go_wp2_with fail
      go_region
      go_wp2_with fail
      exact bodyPost_ret (v := .tuple #[vt, .int .i64 0, .int .i64 0]) (by simp [results, Tryz.results8, go_sem]) rfl ⟨vt, by rw [HP.out]; rfl, by rw [HP.out]; exact HV.out.keep (Below.drew (Below.refl _ _)), Below.drew HK.out⟩
  · have HP := Lib.hid (wr_par hw)
    have hj : j ≤ 3000 := by
      have h2 := HOk.out.1
      rcases hw with ⟨_, ⟨h, _⟩ | ⟨h, _⟩⟩
      · rw [List.length_map] at h; omega
      · rw [List.length_map] at h; omega
    have HPw := Lib.hid (rplace_any _ _ _ _ j E T (by omega) w2.drew.drew HM.out.drews.drews)
    rw [HS.out] at HP
    generalize (if j < (toks 0 s.data.toList).length then ((toks 0 s.data.toList).getD j default).1 else s.size) = pl at HP HPw
    have c2 := HM.out.cells.2.1
    have e0 : ¬ (E : Int) = 0 := by omega
    have e1 : ((E : Int) == 0) = false := beq_false_of_ne e0
    have HE := Lib.hid hE
    clear hw hE e0
    go_wp2_with fail
    go_region
    go_wp2_with fail
    have HB3 : Hid (Below w.heap.size w w2.drew) := Lib.hid (Below.drew HK.out)
    have HM3 := Lib.hid HM.out.drews
    clear c2 HM HK
    generalize w2.drew = W at *
    have c2 := HM3.out.cells.2.1
    go_region_with (go_at_call 14; (with_reducible refine HPw.out.mono ?_); rintro e w3 ⟨rfl, hb3⟩; have HB4 := Lib.hid (onB HB3.out (undrewB hb3)); have c3 := (HM3.out.drews.keep hb3).cells.2.1; clear hb3)
    all_goals
      go_wp2_with fail
      exact bodyPost_ret (v := .tuple #[.slice none 0 0, .int .i64 (pl : Nat), .int .i64 (E : Nat)]) (by simp [results, Tryz.results8, go_sem]) rfl ⟨.slice none 0 0, by rw [HP.out], by rw [HP.out]; exact .inl ⟨rfl, _, _, rfl⟩, HB4.out⟩

end Go.Proofs.YtdmdgoeacafpiaaGreatDoor

namespace Go.Proofs.YtdmdgoeacafpiaaGreatDoor
open Go.RowKit Go.Lib
set_option linter.unusedVariables false
set_option linter.unusedSimpArgs false

theorem parP_len (l : List UInt8) : (parT l).1.length ≤ 1000 := by
  by_cases h : (parT l).2.2 = 0
  · obtain ⟨c1, c2, _⟩ := par_chk (l := l) (t := (parT l).1) (a := (parT l).2.1) (by rw [← h])
    have h2 := (chk_ok c1 c2).1
    omega
  · rw [(par_bad h).1]; exact Nat.zero_le _
set_option maxRecDepth 100000 in
set_option maxHeartbeats 2000000 in
theorem parses_walk (s : ByteArray) (w : World) (T : TabW w) :
    Calls Tryz.prog 3 #[.string s] w fun e w' => e = .returned (.bool true) ∧ Below w.heap.size w w' := by
  have HAw := Lib.hid (fun (w' : World) (hb : Below w.heap.size w w') => awake6_any w' (T.keep hb))
  by_cases hs : s.size ≤ 2000
  · have i6 : ¬ (2000 : Int) < (s.size : Int) := by omega
    have HPa := Lib.hid (tparse_any s (by omega) w T)
    have HRp := Lib.hid (fun (w' : World) => rparse6_any s (by omega) w')
    have hX := parP_len s.data.toList
    have HNd := Lib.hid (fun (w' : World) (v1 v2 : Value) => nodes_any (parT s.data.toList).1 hX v1 v2 w')
    generalize (parT s.data.toList).1 = X at *
    generalize (parT s.data.toList).2.1 = A at *
    generalize (parT s.data.toList).2.2 = E at *
    clear T hs hX
    go_enter Tryz.func3, Tryz.ntmps3
    go_wp2_with fail
    refine (HPa.out).mono ?_
    rintro e w1 ⟨v, rfl, ho, hb1⟩
    have HV := Lib.hid ho.sl
    obtain ⟨va, vc, rfl⟩ := ho.slice
    have HB1 := Lib.hid hb1
    clear ho hb1
    go_wp2_with fail
    refine (HRp.out _).mono ?_
    rintro e w2 ⟨u, rfl, hu, hb2⟩
    have HV2 := Lib.hid (HV.out.keep hb2)
    have HU := Lib.hid hu
    obtain ⟨ua, uc, rfl⟩ := hu.slice
    have HB2 := Lib.hid (onB HB1.out hb2)
    clear hu hb2
    go_wp2_with fail
    refine (HNd.out _ _ _ HV2.out HU.out).mono ?_
    rintro e w3 ⟨rfl, hb3⟩
    have HB3 := Lib.hid (onB HB2.out hb3)
    clear hb3
    go_wp2_with fail
    refine (HAw.out _ HB3.out).mono ?_
    rintro e w4 ⟨rfl, hb4⟩
    have HB4 := Lib.hid (onB HB3.out hb4)
    clear hb4
    go_wp2_with fail
    go_ret
    exact ⟨rfl, HB4.out⟩
  · have i6 : (2000 : Int) < (s.size : Int) := by omega
    clear hs T
    go_enter Tryz.func3, Tryz.ntmps3
    go_wp2_with fail
    refine (HAw.out _ (Below.refl _ _)).mono ?_
    rintro e w1 ⟨rfl, hb1⟩
    go_wp2_with fail
    go_ret
    exact ⟨rfl, hb1⟩

end Go.Proofs.YtdmdgoeacafpiaaGreatDoor
