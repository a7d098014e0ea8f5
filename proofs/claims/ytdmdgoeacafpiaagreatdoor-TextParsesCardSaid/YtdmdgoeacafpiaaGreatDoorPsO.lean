/-
  Package text: Parse: what it answers.
-/
import Derived.Test.YtdmdgoeacafpiaaGreatDoorPsL
namespace Go.Proofs.YtdmdgoeacafpiaaGreatDoor
open Go.RowKit Go.Lib
set_option linter.unusedVariables false
set_option linter.unusedSimpArgs false

theorem readK_par {s : ByteArray} {a E : Nat} {m : Mc} (h : ReadK s a E m) : parT s.data.toList = (if E = 0 then m.N else [], a, E) := by
  unfold ReadK at h
  unfold parT
  dsimp only at h ⊢
  obtain ⟨h1, h2, h3⟩ := h
  by_cases c1 : (runM m0 ((toks 0 s.data.toList).map Prod.snd)).2.1 = 0
  · rw [if_neg (by simpa using c1)]
    by_cases c2 : (runM m0 ((toks 0 s.data.toList).map Prod.snd)).2.2.D = []
    · obtain ⟨rfl, rfl, rfl⟩ := h3 c1 c2
      rw [if_neg (by simpa using c2), if_pos rfl]
    · obtain ⟨rfl, rfl⟩ := h2 c1 c2
      rw [if_pos c2, if_neg (by decide)]
      simp
  · obtain ⟨rfl, rfl⟩ := h1 c1
    rw [if_pos c1, if_neg c1]
theorem readK_zero {s : ByteArray} {a : Nat} {m : Mc} (h : ReadK s a 0 m) : a = 0 := by
  unfold ReadK at h
  dsimp only at h
  obtain ⟨h1, h2, h3⟩ := h
  by_cases c1 : (runM m0 ((toks 0 s.data.toList).map Prod.snd)).2.1 = 0
  · by_cases c2 : (runM m0 ((toks 0 s.data.toList).map Prod.snd)).2.2.D = []
    · exact (h3 c1 c2).1
    · exact absurd (h2 c1 c2).2 (by decide)
  · exact absurd (h1 c1).2.symm c1
theorem own_up {w : World} {base : Nat} {v : Value} {t : List Nd} (h : OwnN w 0 v t) (hb : ∀ k, v.ownBlock = some k → base ≤ k) : OwnN w base v t := by
  obtain ⟨h1, h2⟩ := h
  refine ⟨h1, ?_⟩
  rcases h2 with h2 | ⟨g, cap, cur, rfl, _, h3⟩
  · exact .inl h2
  · exact .inr ⟨g, cap, cur, rfl, hb g rfl, h3⟩

set_option maxRecDepth 100000 in
set_option maxHeartbeats 2000000 in
theorem tparse_any (s : ByteArray) (hs : s.size ≤ 3000) (w : World) (T : TabW w) :
    Calls Tryz.prog 7 #[.string s] w fun e w' => ∃ v, e = .returned (.tuple #[v, .int .i64 (parT s.data.toList).2.1, .int .i64 (parT s.data.toList).2.2]) ∧ OwnN w' w.heap.size v (parT s.data.toList).1 ∧ Below w.heap.size w w' := by
  have hps : PsM ((w.alloc (.cells #[.int .i64 2] 3)).alloc (.cells #[.string s, .slice none 0 0, .int .i64 0, .slice (some ⟨w.heap.size, 0, none⟩) 1 1] 41)) (· < w.heap.size) (w.heap.size + 1) s m0 := by
    have hsz : (w.alloc (.cells #[.int .i64 2] 3)).heap.size = w.heap.size + 1 := by simp
    refine ⟨.slice none 0 0, .slice (some ⟨w.heap.size, 0, none⟩) 1 1, ?_, ?_, ?_, ?_, ?_, OwnN.nil _ _, ?_, ?_, ?_, ?_, ?_, ?_⟩
    · rw [World.cell?_alloc_at _ _ _ _ hsz.symm]; rfl
    · rw [World.cell?_alloc_at _ _ _ _ hsz.symm]; rfl
    · rw [World.cell?_alloc_at _ _ _ _ hsz.symm]; rfl
    · rw [World.cell?_alloc_at _ _ _ _ hsz.symm]; rfl
    · intro i
      have hg : ((w.alloc (.cells #[.int .i64 2] 3)).alloc (.cells #[.string s, .slice none 0 0, .int .i64 0, .slice (some ⟨w.heap.size, 0, none⟩) 1 1] 41)).heap[w.heap.size + 1]? = some (.cells #[.string s, .slice none 0 0, .int .i64 0, .slice (some ⟨w.heap.size, 0, none⟩) 1 1] 41) := by
        have := heap_alloc_new (w.alloc (.cells #[.int .i64 2] 3)) (.cells #[.string s, .slice none 0 0, .int .i64 0, .slice (some ⟨w.heap.size, 0, none⟩) 1 1] 41)
        rwa [hsz] at this
      exact frozen_of_row _ _ i _ _ hg
    · have := World.ownsRow_lit (size := 1) (base := 0) (e := 3) w #[.int .i64 2] 1 (Nat.zero_le _) (by unfold maxLen; omega) rfl
      exact World.ownsRow.alloc this _
    · intro k hk; cases hk
    · intro k hk; cases hk
    · intro k hk
      cases hk
      exact ⟨show w.heap.size ≠ w.heap.size + 1 by omega, show ¬ w.heap.size < w.heap.size by omega⟩
    · show ¬ w.heap.size + 1 < w.heap.size
      omega
    · intro k hk
      have hk' : k < w.heap.size := hk
      simp; omega
  have HRd := Lib.hid (tread_any w.heap.size s hs (w.heap.size + 1) _ hps (by simp; omega) ((Tb.start T).keep (onB (newB w _) (newB _ _))))
  have HB0 := Lib.hid (onB (newB w (.cells #[.int .i64 2] 3)) (newB _ (.cells #[.string s, .slice none 0 0, .int .i64 0, .slice (some ⟨w.heap.size, 0, none⟩) 1 1] 41)))
  clear hps T
  go_enter Tryz.func7, Tryz.ntmps7
  go_wp2_with fail
  refine HRd.out.mono ?_
  rintro e w1 ⟨a, E, m, hk, rfl, hq, hb1⟩
  have HK := Lib.hid (readK_par hk)
  have HB1 := Lib.hid (HB0.out.trans hb1)
  have HRK := Lib.hid hk
  clear hk hb1
  by_cases hE : E = 0
  · subst hE
    obtain ⟨vn, vd, hr⟩ := hq rfl
    have c1 := hr.c1
    have HO := Lib.hid (own_up (base := w.heap.size) hr.hn (fun k hk => by have := (hr.bn k hk).2; have h2 : ¬ k < w.heap.size := this; omega))
    clear hr hq
    go_wp2_with fail
    exact bodyPost_ret (v := .tuple #[vn, .int .i64 0, .int .i64 0]) (by simp [results, Tryz.results7, go_sem]) rfl ⟨vn, by rw [HK.out, readK_zero HRK.out]; rfl, by rw [HK.out, if_pos (by first | rfl | trivial)]; exact HO.out, HB1.out⟩
  · have hE1 : ((E : Int) == 0) = false := by simp; omega
    have HE := Lib.hid hE
    clear hq hE
    go_wp2_with fail
    exact bodyPost_ret (v := .tuple #[.slice none 0 0, .int .i64 a, .int .i64 E]) (by simp [results, Tryz.results7, go_sem]) rfl ⟨.slice none 0 0, by rw [HK.out], by rw [HK.out, if_neg HE.out]; exact OwnN.nil _ _, HB1.out⟩

end Go.Proofs.YtdmdgoeacafpiaaGreatDoor
