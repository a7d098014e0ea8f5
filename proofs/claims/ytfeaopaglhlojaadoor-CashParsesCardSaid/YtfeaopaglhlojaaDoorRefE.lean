/-
  chattelref01's Add, signs that differ; Add.
-/
import Derived.Test.YtfeaopaglhlojaaDoorRefD
namespace Go.Proofs.YtfeaopaglhlojaaDoor
open Go.RowKit
set_option linter.unusedVariables false

theorem drewN_below3 (w : World) (o1 o2 o3 : Obj) (q : Nat) : Below w.heap.size w ((((w.alloc o1).alloc o2).alloc o3).drewN q) :=
  (Below.alloc (Below.alloc (Below.alloc (Below.refl _ w) (Nat.le_refl _) _) (by simp) _) (by simp; omega) _).trans ((drewN_below' _ q).mono (by simp; omega))

theorem after3n {w w' : World} {s0 s1 t0 t1 u0 u1 : Value} {e1 e2 e3 : TypeId} {q : Nat} (hb : Below ((((w.alloc (.cells #[s0, s1] e1)).alloc (.cells #[t0, t1] e2)).alloc (.cells #[u0, u1] e3)).drewN q).heap.size ((((w.alloc (.cells #[s0, s1] e1)).alloc (.cells #[t0, t1] e2)).alloc (.cells #[u0, u1] e3)).drewN q) w') :
    w'.cell? ⟨w.heap.size, 0, none⟩ = some s0 ∧ w'.cell? ⟨w.heap.size, 1, none⟩ = some s1 ∧ w'.cell? ⟨w.heap.size + 1, 0, none⟩ = some t0 ∧ w'.cell? ⟨w.heap.size + 1, 1, none⟩ = some t1 ∧
    w'.cell? ⟨w.heap.size + 1 + 1, 0, none⟩ = some u0 ∧ w'.cell? ⟨w.heap.size + 1 + 1, 1, none⟩ = some u1 ∧ w'.frozen? ⟨w.heap.size + 1 + 1, 0, none⟩ = false ∧ w'.frozen? ⟨w.heap.size + 1 + 1, 1, none⟩ = false ∧ w.heap.size + 3 ≤ w'.heap.size :=
  after3 (w' := w') ⟨hb.os, hb.tape, hb.output, hb.size, hb.block⟩

set_option maxHeartbeats 4000000 in
set_option maxRecDepth 100000 in
theorem radd_less (x y : Int) (a b : Option Addr) (c d : Nat) (w : World) (h : BigA w x a c) (h' : BigA w y b d) (hx : x.natAbs < 2 ^ 1000) (hy : y.natAbs < 2 ^ 1000) (sg sg' : Bool) (sx : decide (x < 0) = sg) (sy : decide (y < 0) = sg') (hss : (sg == sg') = false) (hlt : x.natAbs < y.natAbs) :
    Calls Tryd.prog 64 #[.agg #[.bool sg, .slice a (bitsN x.natAbs).length c], .agg #[.bool sg', .slice b (bitsN y.natAbs).length d]] w fun e w' => (∃ v, e = .returned v ∧ BigV w' v (x + y)) ∧ Below w.heap.size w w' := by
  have lx := bitsN_len 1000 _ hx
  have ly := bitsN_len 1000 _ hy
  have HOr := Lib.hid (fun o1 o2 o3 => ord_any x.natAbs y.natAbs a b c d ((w.alloc o1).alloc o2 |>.alloc o3) (h.1.keep (drewN_below3 w o1 o2 o3 0)) (h'.1.keep (drewN_below3 w o1 o2 o3 0)) (by omega) (by omega))
  have HMi := Lib.hid (fun o1 o2 o3 q => minus_any (bitsN y.natAbs) (bitsN x.natAbs) b a d c ((((w.alloc o1).alloc o2).alloc o3).drewN q).drew (h'.1.keep (drewN_below3 w o1 o2 o3 q).drew) (h.1.keep (drewN_below3 w o1 o2 o3 q).drew) (bits_of_bitsN _) (bits_of_bitsN _) (by omega) (by omega) (by rw [val_bitsN, val_bitsN]; omega))
  have ho : ordZ x.natAbs y.natAbs = -1 := by unfold ordZ; rw [if_pos hlt]
  rw [ho] at HOr
  have HSum : Hid ((x + y).natAbs = y.natAbs - x.natAbs ∧ sg' = decide (x + y < 0)) := by
    apply Lib.hid
    cases sg <;> cases sg' <;> simp at hss
    · have := of_decide_eq_false sx; have := of_decide_eq_true sy
      exact ⟨by omega, (decide_eq_true (by omega)).symm⟩
    · have := of_decide_eq_true sx; have := of_decide_eq_false sy
      exact ⟨by omega, (decide_eq_false (by omega)).symm⟩
  generalize hn : (bitsN x.natAbs).length = n at *
  generalize hm : (bitsN y.natAbs).length = m at *
  clear h h' sx sy hn hm hx hy hlt ho
  go_enter Tryd.func64, Tryd.ntmps64
  go_wp2_with (go_at_call 89; refine (HOr.out _ _ _).mono ?_; rintro e w' ⟨rfl, q, rfl⟩)
  all_goals go_region_with (go_at_call 90; refine (HMi.out _ _ _ _).mono ?_; rintro e w' ⟨v, rfl, hs, hb⟩; obtain ⟨k0, k1, k2, k3, k4, k5, k6, k7, k8⟩ := after3n (q := q + 1) hb; obtain ⟨va, vc, hve, _, _, _⟩ := id hs; subst hve; have HR := Lib.hid (And.intro hs hb); clear hs hb)
  all_goals go_wp2
  all_goals (
    obtain ⟨r1, r2⟩ := HR.out
    have r6 := r1
    rw [val_bitsN, val_bitsN, ← HSum.out.1] at r6
    exact bodyPost_ret (v := .agg #[.bool sg', .slice va _ vc]) (by simp [results, Tryd.results64, go_sem, k4, k5]) rfl (big_end3 (w3 := ((((w.alloc _).alloc _).alloc _).drewN q).drew) ((drewN_below3 w _ _ _ q).drew) (by show _ ≤ (((w.alloc _).alloc _).alloc _).heap.size; simp) r2 (by first | exact r6 | (rw [val_bitsN, val_bitsN, ← HSum.out.1]; exact r6)) HSum.out.2 k4 k5))

set_option maxHeartbeats 4000000 in
set_option maxRecDepth 100000 in
theorem radd_more (x y : Int) (a b : Option Addr) (c d : Nat) (w : World) (h : BigA w x a c) (h' : BigA w y b d) (hx : x.natAbs < 2 ^ 1000) (hy : y.natAbs < 2 ^ 1000) (sg sg' : Bool) (sx : decide (x < 0) = sg) (sy : decide (y < 0) = sg') (hss : (sg == sg') = false) (hlt : ¬ x.natAbs < y.natAbs) :
    Calls Tryd.prog 64 #[.agg #[.bool sg, .slice a (bitsN x.natAbs).length c], .agg #[.bool sg', .slice b (bitsN y.natAbs).length d]] w fun e w' => (∃ v, e = .returned v ∧ BigV w' v (x + y)) ∧ Below w.heap.size w w' := by
  have lx := bitsN_len 1000 _ hx
  have ly := bitsN_len 1000 _ hy
  have HOr := Lib.hid (fun o1 o2 o3 => ord_any x.natAbs y.natAbs a b c d ((w.alloc o1).alloc o2 |>.alloc o3) (h.1.keep (drewN_below3 w o1 o2 o3 0)) (h'.1.keep (drewN_below3 w o1 o2 o3 0)) (by omega) (by omega))
  have HMi := Lib.hid (fun o1 o2 o3 q => minus_any (bitsN x.natAbs) (bitsN y.natAbs) a b c d ((((w.alloc o1).alloc o2).alloc o3).drewN q) (h.1.keep (drewN_below3 w o1 o2 o3 q)) (h'.1.keep (drewN_below3 w o1 o2 o3 q)) (bits_of_bitsN _) (bits_of_bitsN _) (by omega) (by omega) (by rw [val_bitsN, val_bitsN]; omega))
  obtain ⟨o, ho, o0⟩ : ∃ o, ordZ x.natAbs y.natAbs = o ∧ ¬ o < 0 := ⟨_, rfl, by unfold ordZ; rw [if_neg hlt]; split <;> omega⟩
  rw [ho] at HOr
  have hk : (x + y).natAbs = x.natAbs - y.natAbs := by
    cases sg <;> cases sg' <;> simp at hss
    · have := of_decide_eq_false sx; have := of_decide_eq_true sy; omega
    · have := of_decide_eq_true sx; have := of_decide_eq_false sy; omega
  have HK : Hid (val (bitsN x.natAbs) - val (bitsN y.natAbs) = (x + y).natAbs) := Lib.hid (by rw [val_bitsN, val_bitsN, hk])
  obtain ⟨L, hL⟩ : ∃ L, (bitsN (x + y).natAbs).length = L := ⟨_, rfl⟩
  have hpos := @bitsN_len_pos (x + y)
  rw [hL] at hpos
  have HL : Hid ((bitsN (val (bitsN x.natAbs) - val (bitsN y.natAbs))).length = L) := Lib.hid (by rw [HK.out, hL])
  generalize hn : (bitsN x.natAbs).length = n at *
  generalize hm : (bitsN y.natAbs).length = m at *
  cases sg
  · have HZ : Hid (false = decide (x + y < 0)) := by
      cases sg' <;> simp at hss
      have := of_decide_eq_false sx; have := of_decide_eq_true sy
      exact Lib.hid (decide_eq_false (by omega)).symm
    clear h h' sx sy hn hm hx hy hlt ho hk hL hpos
    go_enter Tryd.func64, Tryd.ntmps64
    go_wp2_with (first | (go_at_call 89; refine (HOr.out _ _ _).mono ?_; rintro e w' ⟨rfl, q, rfl⟩) | (go_at_call 90; refine (HMi.out _ _ _ _).mono ?_; rintro e w' ⟨v, rfl, hs, hb⟩; obtain ⟨k0, k1, k2, k3, k4, k5, k6, k7, k8⟩ := after3n hb; obtain ⟨va, vc, hve, _, _, _⟩ := id hs; rw [HL.out] at hve; subst hve; have HR := Lib.hid (And.intro hs hb); clear hs hb))
    obtain ⟨r1, r2⟩ := HR.out
    rw [HK.out] at r1
    exact bodyPost_ret (v := .agg #[.bool false, .slice va L vc]) (by simp [results, Tryd.results64, go_sem, k4, k5]) rfl (big_end3 (w3 := (((w.alloc _).alloc _).alloc _).drewN _) (drewN_below3 w _ _ _ _) (by show _ ≤ (((w.alloc _).alloc _).alloc _).heap.size; simp) r2 r1 HZ.out k4 k5)
  · cases sg' <;> simp at hss
    have hss : (true == false) = false := rfl
    by_cases hp : 0 < L
    · have HZ : Hid (true = decide (x + y < 0)) := by
        have := of_decide_eq_true sx; have := of_decide_eq_false sy; have := hpos.1 hp
        exact Lib.hid (decide_eq_true (by omega)).symm
      clear h h' sx sy hn hm hx hy hlt ho hk hL hpos
      go_enter Tryd.func64, Tryd.ntmps64
      go_wp2_with (first | (go_at_call 89; refine (HOr.out _ _ _).mono ?_; rintro e w' ⟨rfl, q, rfl⟩) | (go_at_call 90; refine (HMi.out _ _ _ _).mono ?_; rintro e w' ⟨v, rfl, hs, hb⟩; obtain ⟨k0, k1, k2, k3, k4, k5, k6, k7, k8⟩ := after3n hb; obtain ⟨va, vc, hve, _, _, _⟩ := id hs; rw [HL.out] at hve; subst hve; have HR := Lib.hid (And.intro hs hb); clear hs hb))
      obtain ⟨r1, r2⟩ := HR.out
      rw [HK.out] at r1
      exact bodyPost_ret (v := .agg #[.bool true, .slice va L vc]) (by simp [results, Tryd.results64, go_sem, k4, k5]) rfl (big_end3 (w3 := (((w.alloc _).alloc _).alloc _).drewN _) (drewN_below3 w _ _ _ _) (by show _ ≤ (((w.alloc _).alloc _).alloc _).heap.size; simp) r2 r1 HZ.out k4 k5)
    · have HZ : Hid (false = decide (x + y < 0)) := by
        have := of_decide_eq_true sx; have := of_decide_eq_false sy
        have : x + y = 0 := by
          by_cases g : x + y = 0
          · exact g
          · exact absurd (hpos.2 g) hp
        exact Lib.hid (decide_eq_false (by omega)).symm
      clear h h' sx sy hn hm hx hy hlt ho hk hL hpos
      go_enter Tryd.func64, Tryd.ntmps64
      go_wp2_with (first | (go_at_call 89; refine (HOr.out _ _ _).mono ?_; rintro e w' ⟨rfl, q, rfl⟩) | (go_at_call 90; refine (HMi.out _ _ _ _).mono ?_; rintro e w' ⟨v, rfl, hs, hb⟩; obtain ⟨k0, k1, k2, k3, k4, k5, k6, k7, k8⟩ := after3n hb; obtain ⟨va, vc, hve, _, _, _⟩ := id hs; rw [HL.out] at hve; subst hve; have HR := Lib.hid (And.intro hs hb); clear hs hb))
      obtain ⟨r1, r2⟩ := HR.out
      rw [HK.out] at r1
      exact bodyPost_ret (v := .agg #[.bool false, .slice va L vc]) (by simp [results, Tryd.results64, go_sem, k4, k5]) rfl (big_end3 (w3 := (((w.alloc _).alloc _).alloc _).drewN _) (drewN_below3 w _ _ _ _) (by show _ ≤ (((w.alloc _).alloc _).alloc _).heap.size; simp) r2 r1 HZ.out k4 k5)

theorem radd_any (x y : Int) (v v' : Value) (w : World) (h : BigV w v x) (h' : BigV w v' y) (hx : x.natAbs < 2 ^ 1000) (hy : y.natAbs < 2 ^ 1000) :
    Calls Tryd.prog 64 #[v, v'] w fun e w' => (∃ v, e = .returned v ∧ BigV w' v (x + y)) ∧ Below w.heap.size w w' := by
  obtain ⟨a, c, rfl, g⟩ := h.open
  obtain ⟨b, d, rfl, g'⟩ := h'.open
  cases hss : (decide (x < 0) == decide (y < 0))
  · by_cases hlt : x.natAbs < y.natAbs
    · exact radd_less x y a b c d w g g' hx hy _ _ rfl rfl hss hlt
    · exact radd_more x y a b c d w g g' hx hy _ _ rfl rfl hss hlt
  · have e := eq_of_beq hss
    rw [← e]
    exact radd_same x y a b c d w g g' hx hy _ rfl e.symm

end Go.Proofs.YtfeaopaglhlojaaDoor
