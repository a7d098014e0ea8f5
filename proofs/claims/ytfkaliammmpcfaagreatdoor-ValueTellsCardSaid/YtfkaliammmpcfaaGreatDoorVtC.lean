/-
  chattelref08.Value: what it answers.
-/
import Derived.Test.YtfkaliammmpcfaaGreatDoorVtB
namespace Go.Proofs.YtfkaliammmpcfaaGreatDoor
open Go.RowKit Go.Lib Go.Shelf Go.Maps
set_option linter.unusedVariables false
set_option linter.unusedSimpArgs false

theorem fitQ_yes {q : Rat} (h : fitsR q = true) : fitQ q = some (some q) := by unfold fitQ; rw [if_pos h]
theorem rvT_mk {v : Option (Option Rat)} {w w' : World} {z : Nat} {e : Ending} (h : e = .returned (.tuple #[.agg #[.int .i64 (vN v), .int .i64 (vD v)], .bool (vB v), .int .i64 (vE v)]) ∧ Below z w w') : e = .returned (rvT v) ∧ Below z w w' := h
theorem rvl_any (t : List Nd) (hl : t.length ≤ 1000) (b o cap : Nat) (hcap : t.length ≤ cap) (hOk : ∀ q, q < t.length → opA t q = 1 → OkR (t.getD q default).num (t.getD q default).den) (day : Int) {l : List Fct} (hll : l.length ≤ 1000) (hO : OkL l) (sa : Option Addr) (sn sc : Nat) :
    ∀ (f p : Nat), NmA t p → szA t p ≤ f → ∀ w, NdA w b o t → SlFct w (.slice sa sn sc) l →
      Calls Tryz.prog 9 #[.slice (some ⟨b, o, none⟩) t.length cap, .int .i64 (p : Nat), .int .i64 day, .slice sa sn sc] w fun e w' => e = .returned (rvT (vlA t (fxL l day) p)) ∧ Below w.heap.size w w'
  | 0, p, h, hf, w, hN, hL => by have := h.tm.bd; omega
  | f + 1, p, h, hf, w, hN, hL => by
    have hp := h.tm.lt
    have hb0 := h.tm.bd
    have kid : ∀ i, i < cnO (opA t p) → ∀ w', Below w.heap.size w w' → Calls Tryz.prog 9 #[.slice (some ⟨b, o, none⟩) t.length cap, .int .i64 ((plA t (p + 1) i : Nat) : Int), .int .i64 day, .slice sa sn sc] w' fun e w'' => e = .returned (rvT (vlA t (fxL l day) (plA t (p + 1) i))) ∧ Below w'.heap.size w' w'' := fun i hi w' hb => by
      obtain ⟨k1, k2, k3⟩ := h.kid hi
      exact rvl_any t hl b o cap hcap hOk day hll hO sa sn sc f _ k1 (by omega) w' (hN.keep hb) (hL.keep hb)
    have kfit : ∀ i, i < cnO (opA t p) → ∀ r, vlA t (fxL l day) (plA t (p + 1) i) = some (some r) → fitsR r = true := fun i hi r hr => by
      obtain ⟨k1, k2, k3⟩ := h.kid hi
      exact vl_fits hOk (fun k r hr => fx_fits hO day k r hr) (szA t (plA t (p + 1) i)) _ (Nat.le_refl _) k1 r hr
    rcases h.cn with ⟨e | e, _⟩ | ⟨e, e2⟩ | ⟨⟨e3, e4⟩, e2⟩
    · rw [vl_num h e]
      have hk := hOk p hp e
      refine (rv_num t b o cap p hp hcap hl e day _ w hN).mono ?_
      rintro e' w' ⟨rfl, hb⟩
      refine ⟨?_, hb⟩
      show _ = Ending.returned (.tuple #[.agg #[.int .i64 (rat (t.getD p default).num (t.getD p default).den).num, .int .i64 (((rat (t.getD p default).num (t.getD p default).den).den : Nat) : Int)], .bool true, .int .i64 0])
      rw [hk.num, hk.den]
    · rw [vl_fix h e]
      obtain ⟨f1, f2, f3, f4⟩ := fx_val hO day (t.getD p default).a
      refine (rv_fix t b o cap p hp hcap hl e day _ hll w hN hL).mono ?_
      rintro e' w' ⟨rfl, hb⟩
      refine ⟨?_, hb⟩
      unfold rvT
      rw [f1, f2, f3, f4]
    · rw [vl_neg h e]
      have hA := kid 0 (by omega)
      have hF := kfit 0 (by omega)
      rw [e] at e2
      match hv : vlA t (fxL l day) (plA t (p + 1) 0) with
      | none =>
        rw [hv] at hA
        exact rv_nbad t b o cap p h.tm hcap hl 3 e e2 day sa sn sc w hN rfl hA
      | some none =>
        rw [hv] at hA
        exact rv_nunk t b o cap p h.tm hcap hl 3 e e2 day sa sn sc w hN rfl 0 0 hA
      | some (some r) =>
        rw [hv] at hA
        have hr := hF r hv
        obtain ⟨m1, m2, m3, m4, m5⟩ := lim400 hr
        have hq := fit_eq (-r)
        rw [show ngV (some (some r)) = fitQ (-r) from (fitQ_yes (fits_neg hr)).symm]
        exact (rv_neg t b o cap p h.tm hcap hl 3 e e2 day sa sn sc w hN rfl r.num ((r.den : Nat) : Int) hA m1 m2 m3 m4 m5 _ _ _ _ (by rw [rat_opp, rat_of]; exact hq.1) ⟨hq.2.1, hq.2.2⟩).mono fun e' w' h => rvT_mk h
    · rw [vl_two h e3]
      have hA := kid 0 (by omega)
      have hB := kid 1 (by omega)
      have hFa := kfit 0 (by omega)
      have hFb := kfit 1 (by omega)
      match hv : vlA t (fxL l day) (plA t (p + 1) 0), hu : vlA t (fxL l day) (plA t (p + 1) 1) with
      | none, _ =>
        rw [hv] at hA
        rw [two_none (.inl rfl)]
        exact rv_bad1 t b o cap p h.tm hcap hl (opA t p) rfl e3 e4 e2 day sa sn sc w hN hA
      | some x, none =>
        rw [hu] at hB
        rw [hv] at hA
        rw [two_none (.inr rfl)]
        cases x with
        | none => exact rv_bad2 t b o cap p h.tm hcap hl (opA t p) rfl e3 e4 e2 day sa sn sc w hN 0 0 false hA hB
        | some r => exact rv_bad2 t b o cap p h.tm hcap hl (opA t p) rfl e3 e4 e2 day sa sn sc w hN r.num ((r.den : Nat) : Int) true hA hB
      | some none, some y =>
        rw [hu] at hB
        rw [hv] at hA
        cases y with
        | none => exact rv_unk t b o cap p h.tm hcap hl (opA t p) rfl e3 e4 e2 day sa sn sc w hN 0 0 false hA 0 0 false hB rfl
        | some r => exact rv_unk t b o cap p h.tm hcap hl (opA t p) rfl e3 e4 e2 day sa sn sc w hN 0 0 false hA r.num ((r.den : Nat) : Int) true hB rfl
      | some (some x), some none =>
        rw [hu] at hB
        rw [hv] at hA
        exact rv_unk t b o cap p h.tm hcap hl (opA t p) rfl e3 e4 e2 day sa sn sc w hN x.num ((x.den : Nat) : Int) true hA 0 0 false hB rfl
      | some (some x), some (some y) =>
        rw [hu] at hB
        rw [hv] at hA
        obtain ⟨m1, m2, m3, m4, m5⟩ := lim400 (hFa x hv)
        obtain ⟨n1, n2, n3, n4, n5⟩ := lim400 (hFb y hu)
        show Calls _ _ _ _ fun e w' => e = .returned (rvT (twoQ (opA t p) x y)) ∧ _
        rcases (show opA t p = 4 ∨ opA t p = 5 ∨ opA t p = 6 ∨ opA t p = 7 ∨ opA t p = 8 by omega) with ho | ho | ho | ho | ho
        · have hq := fit_eq (x + y)
          rw [show twoQ (opA t p) x y = fitQ (x + y) by unfold twoQ; rw [if_pos ho]]
          exact (rv_plus t b o cap p h.tm hcap hl (opA t p) rfl e3 e4 e2 day sa sn sc w hN ho x.num ((x.den : Nat) : Int) hA y.num ((y.den : Nat) : Int) hB m1 m2 m3 m4 m5 n1 n2 n3 n4 n5 _ _ _ _ (by rw [rt_add m3 n3, rat_of, rat_of]; exact hq.1) ⟨hq.2.1, hq.2.2⟩).mono fun e' w' h => rvT_mk h
        · have hq := fit_eq (x - y)
          rw [show twoQ (opA t p) x y = fitQ (x - y) by unfold twoQ; rw [if_neg (by omega), if_pos ho]]
          exact (rv_minus t b o cap p h.tm hcap hl (opA t p) rfl e3 e4 e2 day sa sn sc w hN ho x.num ((x.den : Nat) : Int) hA y.num ((y.den : Nat) : Int) hB m1 m2 m3 m4 m5 n1 n2 n3 n4 n5 _ _ _ _ (by rw [rt_sub m3 n3, rat_of, rat_of]; exact hq.1) ⟨hq.2.1, hq.2.2⟩).mono fun e' w' h => rvT_mk h
        · have hq := fit_eq (x * y)
          rw [show twoQ (opA t p) x y = fitQ (x * y) by unfold twoQ; rw [if_neg (by omega), if_neg (by omega), if_pos ho]]
          exact (rv_times t b o cap p h.tm hcap hl (opA t p) rfl e3 e4 e2 day sa sn sc w hN ho x.num ((x.den : Nat) : Int) hA y.num ((y.den : Nat) : Int) hB m1 m2 m3 m4 m5 n1 n2 n3 n4 n5 _ _ _ _ (by rw [rt_mul, rat_of, rat_of]; exact hq.1) ⟨hq.2.1, hq.2.2⟩).mono fun e' w' h => rvT_mk h
        · rw [show twoQ (opA t p) x y = some (some (if x < y then x else y)) by unfold twoQ; rw [if_neg (by omega), if_neg (by omega), if_neg (by omega), if_pos ho]]
          refine rv_least t b o cap p h.tm hcap hl (opA t p) rfl e3 e4 e2 day sa sn sc w hN ho x.num ((x.den : Nat) : Int) hA y.num ((y.den : Nat) : Int) hB m1 m2 m3 m4 m5 n1 n2 n3 n4 n5 _ _ ⟨fun hs => ?_, fun hs => ?_⟩
          · have hn := ord_eq.1 hs
            by_cases c : x < y
            · rw [if_pos c]; exact ⟨rfl, rfl⟩
            · have : x = y := Rat.le_antisymm (Rat.not_lt.1 hn) (Rat.not_lt.1 c)
              subst this
              rw [if_neg c]; exact ⟨rfl, rfl⟩
          · have hn : y < x := Decidable.not_not.1 (fun c => hs (ord_eq.2 c))
            rw [if_neg (Rat.not_lt.2 (Rat.le_of_lt hn))]
            exact ⟨rfl, rfl⟩
        · rw [show twoQ (opA t p) x y = some (some (if y < x then x else y)) by unfold twoQ; rw [if_neg (by omega), if_neg (by omega), if_neg (by omega), if_neg (by omega)]]
          refine rv_most t b o cap p h.tm hcap hl (opA t p) rfl e3 e4 e2 day sa sn sc w hN ho x.num ((x.den : Nat) : Int) hA y.num ((y.den : Nat) : Int) hB m1 m2 m3 m4 m5 n1 n2 n3 n4 n5 _ _ ⟨fun hs => ?_, fun hs => ?_⟩
          · rw [if_neg (ord_eq.1 hs)]; exact ⟨rfl, rfl⟩
          · have hn : y < x := Decidable.not_not.1 (fun c => hs (ord_eq.2 c))
            rw [if_pos hn]; exact ⟨rfl, rfl⟩

end Go.Proofs.YtfkaliammmpcfaaGreatDoor
