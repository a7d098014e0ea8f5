/-
  chattellaw11.AgendaOrder: its walk.
-/
import Derived.Test.YtkfcaafjnolhgaaAhB
import Derived.BigQuiet
namespace Go.Proofs.Ytkfcaafjnolhgaa
open Go.RowKit Go.Lib Go.Maps Go.Sort Go.Shelf
set_option linter.unusedVariables false
set_option linter.unusedSimpArgs false

attribute [local go_sem] eq_it
theorem srI_at {l : List It} (h : SrI l) {i j : Nat} (hij : i < j) (hj : j < l.length) : bfI (l.getD i default) (l.getD j default) := by
  have hp := List.pairwise_iff_getElem.1 h i j (by omega) hj hij
  rw [List.getD_eq_getElem?_getD, List.getD_eq_getElem?_getD, List.getElem?_eq_getElem (by omega), List.getElem?_eq_getElem hj]
  exact hp
theorem below_drewA (w : World) (q : Nat) : Below w.heap.size w (w.drewN q) := ⟨rfl, rfl, rfl, Nat.le_refl _, fun _ _ => rfl⟩
set_option maxRecDepth 100000 in
set_option maxHeartbeats 4000000 in
theorem order11_walk (w : World) (v : Value) (l : List Cl) (hv : SlCl w v l) (b : Int) (wb : I64 b) :
    Calls Try.prog 4 #[v, .int .i64 b] w fun e w' => e = .returned (.bool true) ∧ Below w.heap.size w w' := by
  obtain ⟨va, vc, rfl⟩ := hv.slice
  have HN := Lib.hid (anew_any w)
  have HAw := Lib.hid (fun w' => awake11_any w')
  have HV := Lib.hid hv
  clear hv
  by_cases hl : l.length ≤ 60
  · have nl : ¬ (60 : Int) < (l.length : Int) := by omega
    go_enter Try.func4, Try.ntmps4
    go_wp2_with fail
    refine HN.out.mono ?_
    rintro e w1 ⟨a, q, bm, rfl, hA, hb⟩
    have HA := Lib.hid hA
    have HB := Lib.hid hb
    clear hA hb HN
    go_wp2_with fail
    go_loopw [6] (fun vi wr => ∃ (i : Nat) (lv : Value), i ≤ l.length ∧ vi = .int .i64 (i : Nat) ∧ AgV wr w.heap.size a q bm lv (runZ (l.take i)).1 (runZ (l.take i)).2 ∧ Below w.heap.size w wr)
      (fun vi _ => l.length - (RowKit.intOf vi).toNat)
    case atStart => exact ⟨0, _, Nat.zero_le _, rfl, HA.out, HB.out⟩
    case round =>
      obtain ⟨i, lv, hi, rfl, hAi, hbi⟩ := hrel
      by_cases hlt : i < l.length
      · have p0 : (0 : Int) ≤ (i : Int) := by omega
        have p1 : (i : Int) < (l.length : Int) := by omega
        obtain ⟨g, o, hva, _, hc1, hc2, k0, k1, k2⟩ := (HV.out.keep hbi).at hlt
        subst hva
        have hle := runZ_le (l.take i)
        rw [List.length_take] at hle
        have HDo := Lib.hid (does_any wr hAi (by omega) (by omega) (l.getD i default).k (l.getD i default).d (l.getD i default).t (HV.out.2 i hlt).2.2)
        have HNx := Lib.hid (runZ_next hlt)
        have HAi := Lib.hid hAi
        have HBi := Lib.hid hbi
        have HLt := Lib.hid hlt
        generalize (l.getD i default).k = ck at *
        generalize (l.getD i default).d = cd at *
        generalize (l.getD i default).t = ct at *
        generalize hz : doZ ck cd ct (runZ (l.take i)).1 (runZ (l.take i)).2 = z at *
        unfold itV at HDo
        clear hAi hbi hlt hle hz
        go_wp2_with fail
        refine HDo.out.mono ?_
        rintro e w2 ⟨rfl, lv2, hA2, ho, hf⟩
        have HB2 := Lib.hid (HBi.out.trans (HAi.out.sb (Nat.le_refl _) ho HBi.out.size))
        have HA2 := Lib.hid hA2
        clear hA2 ho hf HDo
        go_wp2_with fail
        go_roundw
        case rel => exact ⟨i + 1, lv2, HLt.out, by go_num, by rw [HNx.out]; exact HA2.out, HB2.out⟩
        case measure => have := HLt.out; simp [RowKit.intOf]; omega
      · have hie : i = l.length := by omega
        subst hie
        rw [List.take_length] at hAi
        have p1 : ¬ (l.length : Int) < (l.length : Int) := by omega
        have hle := runZ_le l
        have HIt := Lib.hid (items_any hAi (by omega))
        have HAi := Lib.hid hAi
        have HBi := Lib.hid hbi
        clear hAi hbi
        go_wp2_with fail
        refine HIt.out.mono ?_
        rintro e w2 ⟨vs, rfl, ho, hb2⟩
        have HO := Lib.hid ho
        obtain ⟨sa, sc, rfl⟩ := ho.slice
        clear ho HIt
        go_wp2_with fail
        have HBx := Lib.hid (HBi.out.trans (hb2.mono HBi.out.size))
        have HA2 := Lib.hid (HAi.out.keep hb2)
        have HFp : Hid (∀ j, (Value.slice sa (runZ l).1.length sc).ownBlock = some j → ¬ FpA a q bm lv j) := Lib.hid (fun j e c => by have h1 := (HO.out.lt j e).1; have h2 := HAi.out.hi _ c; omega)
        clear hb2 HAi HBi
        have hsr := HA2.out.sr
        generalize (runZ l).1 = L at *
        generalize (runZ l).2 = N at *
        have HSr : Hid (∀ i j, i < j → j < L.length → bfI (L.getD i default) (L.getD j default)) := Lib.hid (fun i j hij hj => srI_at hsr hij hj)
        clear hsr
        generalize wr.heap.size = B0 at *
        go_loopw [8, 9] (fun vk vn wx => ∃ (n : Nat) (lv' : Value), n ≤ L.length ∧ vk = .int .i64 (n : Nat) ∧ vn = .int .i64 (n : Nat) ∧ AgV wx w.heap.size a q bm lv' (L.drop n) N ∧ OwnX itL 3 31 wx B0 (.slice sa L.length sc) L ∧ (∀ j, (Value.slice sa L.length sc).ownBlock = some j → ¬ FpA a q bm lv' j) ∧ Below w.heap.size w wx)
          (fun vk _ _ => L.length + 1 - (RowKit.intOf vk).toNat)
        case atStart => exact ⟨0, _, Nat.zero_le _, rfl, rfl, HA2.out, HO.out, HFp.out, HBx.out⟩
        case round =>
          obtain ⟨n, lv', hn, rfl, rfl, hAn, hOn, hFn, hBn⟩ := hrel
          have n100 : (n : Int) < 100 := by omega
          have HBn := Lib.hid hBn
          have HOn := Lib.hid hOn
          have HFn := Lib.hid hFn
          have HAn := Lib.hid hAn
          cases hd : L.drop n with
          | nil =>
            rw [hd] at hAn
            have HT := Lib.hid (atake_no wr hAn b (fun x M c => by cases c))
            clear hAn hOn hFn hBn
            go_wp2_with fail
            refine HT.out.mono ?_
            rintro e w3 ⟨rfl, hb3⟩
            unfold zIt
            have hb4 := onF hb3 (newF w3 (.cells #[.int .i64 0, .int .i64 0, .int .i64 0] 31))
            rw [hd] at HAn
            have HA4 := Lib.hid (HAn.out.keep hb4)
            have HB4 := Lib.hid (onF HBn.out hb4)
            have HX := Lib.hid (anext_no _ HA4.out)
            obtain rfl : n = L.length := by have := congrArg List.length hd; rw [List.length_drop] at this; simp at this; omega
            have q1 : ¬ (L.length : Int) < (L.length : Int) := by omega
            clear hb3 hb4 HT hd HAn HOn HFn HBn
            go_wp2_with fail
            refine HX.out.mono ?_
            rintro e w5 ⟨rfl, hb5⟩
            unfold zIt
            have hb6 := onF hb5 (newF w5 (.cells #[.int .i64 0, .int .i64 0, .int .i64 0] 31))
            have HA6 := Lib.hid (HA4.out.keep hb6)
            have HB6 := Lib.hid (onF HB4.out hb6)
            have HLn := Lib.hid (fun q => alen_any _ (HA6.out.keep (below_drewA _ q)))
            clear hb5 hb6 HX
            have g0 : decide ((L.length : Int) < (L.length : Int)) = false := by simp
            have g1 : decide ((L.length : Int) = (L.length : Int)) = true := by simp
            go_wp2_with fail
            go_quiet (fail)
            go_wp2_with fail
            refine (HLn.out _).mono ?_
            rintro e w7 ⟨rfl, rfl⟩
            have hsub : (L.length : Int) - (L.length : Int) = 0 := by omega
            clear HLn
            go_wp2_with fail
            refine (HAw.out _).mono ?_
            rintro e w8 ⟨rfl, hb8⟩
            have HB8 := Lib.hid (onF HB6.out (onF (below_drewA _ _) hb8))
            clear hb8
            go_wp2_with fail
            go_ret
            exact ⟨rfl, HB8.out⟩
          | cons x M =>
            rw [hd] at hAn
            by_cases hxb : x.d ≤ b
            · have HT := Lib.hid (atake_yes wr hAn (by rw [← hd, List.length_drop]; omega) b hxb)
              clear hAn hOn hFn hBn
              unfold itV at HT
              go_wp2_with fail
              refine HT.out.mono ?_
              rintro e w3 ⟨rfl, lv3, hA3, ho3, hf3⟩
              have hnl : n < L.length := by have := congrArg List.length hd; rw [List.length_drop] at this; simp at this; omega
              have hgx : L.getD n default = x := by
                rw [List.getD_eq_getElem?_getD, ← List.head?_drop, hd]; rfl
              have hMd : L.drop (n + 1) = M := by rw [← List.drop_drop, hd]; rfl
              have hb4 := newF w3 (.cells #[.int .i64 x.d, .int .i64 x.no, .int .i64 x.tag] 31)
              rw [hd] at HAn
              have HA4 := Lib.hid (hA3.keep hb4)
              have HB4 := Lib.hid (HBn.out.trans ((HAn.out.sb (Nat.le_refl _) ho3 HBn.out.size).trans (hb4.mono (Nat.le_trans HBn.out.size ho3.size))))
              have HO4 := Lib.hid ((ho3.row HOn.out HFn.out).grown hb4)
              have HF4 : Hid (∀ j, (Value.slice sa L.length sc).ownBlock = some j → ¬ FpA a q bm lv3 j) := Lib.hid (fun j e c => (hf3 j c).elim (HFn.out j e) (fun h => by have := (HOn.out.lt j e).2; omega))
              have HMd := Lib.hid hMd
              have HNl := Lib.hid hnl
              obtain ⟨g, o, cap, hv, hc1, hc2, hT⟩ : ∃ g o cap, Value.slice sa L.length sc = .slice (some ⟨g, o, none⟩) L.length cap ∧ L.length ≤ cap ∧ cap ≤ 9223372036854775807 ∧ ∀ j, j < L.length → ∀ i c, i < 3 → (itL (L.getD j default))[i]? = some c → (w3.alloc (.cells #[.int .i64 x.d, .int .i64 x.no, .int .i64 x.tag] 31)).cell? ⟨g, o + j * 3 + i, none⟩ = some c := by
                rcases HO4.out.row (E := itL) (k := 3) itL_len with ⟨e, _⟩ | ⟨_, g, o, cap, h1, h2, h3, h4⟩
                · rw [e] at hnl; exact absurd hnl (Nat.not_lt_zero _)
                · exact ⟨g, o, cap, h1, h2, h3, h4⟩
              injection hv with hv1 _ hv3
              subst hv1 hv3
              have k0 : (w3.alloc (.cells #[.int .i64 x.d, .int .i64 x.no, .int .i64 x.tag] 31)).cell? ⟨g, o + n * 3, none⟩ = some (.int .i64 x.d) := hT n hnl 0 (.int .i64 x.d) (by omega) (by rw [hgx]; rfl)
              have k1 := hT n hnl 1 (.int .i64 x.no) (by omega) (by rw [hgx]; rfl)
              have k2 := hT n hnl 2 (.int .i64 x.tag) (by omega) (by rw [hgx]; rfl)
              have x0 : (w3.alloc (.cells #[.int .i64 x.d, .int .i64 x.no, .int .i64 x.tag] 31)).cell? ⟨w3.heap.size, 0, none⟩ = some (.int .i64 x.d) := by rw [World.cell?_alloc_at _ _ _ _ rfl]; rfl
              have x1 : (w3.alloc (.cells #[.int .i64 x.d, .int .i64 x.no, .int .i64 x.tag] 31)).cell? ⟨w3.heap.size, 1, none⟩ = some (.int .i64 x.no) := by rw [World.cell?_alloc_at _ _ _ _ rfl]; rfl
              have x2 : (w3.alloc (.cells #[.int .i64 x.d, .int .i64 x.no, .int .i64 x.tag] 31)).cell? ⟨w3.heap.size, 2, none⟩ = some (.int .i64 x.tag) := by rw [World.cell?_alloc_at _ _ _ _ rfl]; rfl
              have p0' : (0 : Int) ≤ (n : Int) := by omega
              have p1' : (n : Int) < (L.length : Int) := by omega
              have p2' : (L.length : Int) ≤ 100 := by omega
              have g0 : decide (L.length ≤ n) = false := by simp; omega
              have g2 : decide (b < x.d) = false := by simp; omega
              have e0 : (x.d == x.d) = true := by simp
              have e1 : (x.no == x.no) = true := by simp
              have e2 : (x.tag == x.tag) = true := by simp
              clear ho3 hf3 hA3 hb4 HT HAn HOn HFn HBn hMd
              by_cases cn : n = 0
              · have g1 : decide (0 < n) = false := by simp; omega
                clear hT cn
                go_wp2_with fail
                go_quiet (fail)
                go_wp2_with fail
                go_roundw
                case rel => exact ⟨n + 1, lv3, HNl.out, by go_num, by go_num, by rw [HMd.out]; exact HA4.out.keep (below_drewA _ _), HO4.out.grown (below_drewA _ _), HF4.out, onF HB4.out (below_drewA _ _)⟩
                case measure => have := HNl.out; simp [RowKit.intOf]; omega
              · obtain ⟨p, hp⟩ : ∃ p : Nat, n = p + 1 := ⟨n - 1, by omega⟩
                have hp1 : (n : Int) - 1 = (p : Int) := by omega
                have hp2 : (0 : Int) ≤ (p : Int) := by omega
                have hp3 : (p : Int) < (L.length : Int) := by omega
                have g1 : decide (0 < n) = true := by simp; omega
                have hy := HSr.out p n (by omega) hnl
                have y0 : (w3.alloc (.cells #[.int .i64 x.d, .int .i64 x.no, .int .i64 x.tag] 31)).cell? ⟨g, o + p * 3, none⟩ = some (.int .i64 (L.getD p default).d) := hT p (by omega) 0 (.int .i64 (L.getD p default).d) (by omega) rfl
                have y1 := hT p (by omega) 1 (.int .i64 (L.getD p default).no) (by omega) rfl
                rw [hgx] at hy
                generalize L.getD p default = y at *
                unfold bfI at hy
                clear hT cn hp
                by_cases cy : y.d < x.d
                · have g3 : decide (x.d < y.d) = false := by simp; omega
                  have g4 : (x.d == y.d) = false := beq_false_of_ne (by omega)
                  clear hy cy
                  go_wp2_with fail
                  go_quiet (fail)
                  go_wp2_with fail
                  go_roundw
                  case rel => exact ⟨n + 1, lv3, HNl.out, by go_num, by go_num, by rw [HMd.out]; exact HA4.out.keep (below_drewA _ _), HO4.out.grown (below_drewA _ _), HF4.out, onF HB4.out (below_drewA _ _)⟩
                  case measure => have := HNl.out; simp [RowKit.intOf]; omega
                · have hy2 : y.d = x.d ∧ y.no < x.no := by omega
                  have g5 : decide (x.no ≤ y.no) = false := by simp; omega
                  have g3 : decide (x.d < x.d) = false := by simp
                  rw [hy2.1] at y0
                  clear hy cy hy2
                  go_wp2_with fail
                  go_quiet (fail)
                  go_wp2_with fail
                  go_roundw
                  case rel => exact ⟨n + 1, lv3, HNl.out, by go_num, by go_num, by rw [HMd.out]; exact HA4.out.keep (below_drewA _ _), HO4.out.grown (below_drewA _ _), HF4.out, onF HB4.out (below_drewA _ _)⟩
                  case measure => have := HNl.out; simp [RowKit.intOf]; omega
            · have HT := Lib.hid (atake_no wr hAn b (fun y M' c => by cases c; omega))
              clear hAn hOn hFn hBn
              have hnl : n < L.length := by have := congrArg List.length hd; rw [List.length_drop] at this; simp at this; omega
              have hml : ((x :: M).length : Int) = (L.length : Int) - (n : Int) := by have := congrArg List.length hd; rw [List.length_drop] at this; omega
              have hgx : L.getD n default = x := by
                rw [List.getD_eq_getElem?_getD, ← List.head?_drop, hd]; rfl
              go_wp2_with fail
              refine HT.out.mono ?_
              rintro e w3 ⟨rfl, hb3⟩
              unfold zIt
              have hb4 := onF hb3 (newF w3 (.cells #[.int .i64 0, .int .i64 0, .int .i64 0] 31))
              rw [hd] at HAn
              have HA4 := Lib.hid (HAn.out.keep hb4)
              have HB4 := Lib.hid (onF HBn.out hb4)
              have HO4 := Lib.hid (HOn.out.grown hb4)
              have HX := Lib.hid (anext_yes _ HA4.out)
              clear hb3 hb4 HT hd HAn HOn HFn HBn
              unfold itV at HX
              go_wp2_with fail
              refine HX.out.mono ?_
              rintro e w5 ⟨rfl, hb5⟩
              have hb6 := onF hb5 (newF w5 (.cells #[.int .i64 x.d, .int .i64 x.no, .int .i64 x.tag] 31))
              have HA6 := Lib.hid (HA4.out.keep hb6)
              have HB6 := Lib.hid (onF HB4.out hb6)
              have HO6 := Lib.hid (HO4.out.grown hb6)
              have HLn : Hid (∀ q, Calls Try.prog 16 #[.pointer (some ⟨a, 0, none⟩)] ((w5.alloc (.cells #[.int .i64 x.d, .int .i64 x.no, .int .i64 x.tag] 31)).drewN q) fun e w' => e = .returned (.int .i64 ((L.length : Int) - (n : Int))) ∧ w' = (w5.alloc (.cells #[.int .i64 x.d, .int .i64 x.no, .int .i64 x.tag] 31)).drewN q) := Lib.hid (fun q => by
                have := alen_any _ (HA6.out.keep (below_drewA _ q))
                rw [hml] at this
                exact this)
              obtain ⟨g, o, cap, hv, hc1, hc2, hT⟩ : ∃ g o cap, Value.slice sa L.length sc = .slice (some ⟨g, o, none⟩) L.length cap ∧ L.length ≤ cap ∧ cap ≤ 9223372036854775807 ∧ ∀ j, j < L.length → ∀ i c, i < 3 → (itL (L.getD j default))[i]? = some c → (w5.alloc (.cells #[.int .i64 x.d, .int .i64 x.no, .int .i64 x.tag] 31)).cell? ⟨g, o + j * 3 + i, none⟩ = some c := by
                rcases HO6.out.row (E := itL) (k := 3) itL_len with ⟨e, _⟩ | ⟨_, g, o, cap, h1, h2, h3, h4⟩
                · rw [e] at hnl; exact absurd hnl (Nat.not_lt_zero _)
                · exact ⟨g, o, cap, h1, h2, h3, h4⟩
              injection hv with hv1 _ hv3
              subst hv1 hv3
              have k0 : (w5.alloc (.cells #[.int .i64 x.d, .int .i64 x.no, .int .i64 x.tag] 31)).cell? ⟨g, o + n * 3, none⟩ = some (.int .i64 x.d) := hT n hnl 0 (.int .i64 x.d) (by omega) (by rw [hgx]; rfl)
              have k1 := hT n hnl 1 (.int .i64 x.no) (by omega) (by rw [hgx]; rfl)
              have k2 := hT n hnl 2 (.int .i64 x.tag) (by omega) (by rw [hgx]; rfl)
              have p0' : (0 : Int) ≤ (n : Int) := by omega
              have p1' : (n : Int) < (L.length : Int) := by omega
              have g0 : decide ((n : Int) < (L.length : Int)) = true := by simp [p1']
              have g1 : decide ((n : Int) = (L.length : Int)) = false := by simp; omega
              have g2 : decide (x.d ≤ b) = false := by simp; omega
              have g3 : ((n : Int) == (L.length : Int)) = false := by rw [beq_eq_false_iff_ne]; omega
              clear hb5 hb6 HX hT HA4 HB4 HO4
              go_wp2_with fail
              have e0 : (x.d == x.d) = true := by simp
              have e1 : (x.no == x.no) = true := by simp
              have e2 : (x.tag == x.tag) = true := by simp
              go_quiet (fail)
              go_wp2_with fail
              refine (HLn.out _).mono ?_
              rintro e w7 ⟨rfl, rfl⟩
              clear HLn k0 k1 k2
              go_wp2_with fail
              refine (HAw.out _).mono ?_
              rintro e w8 ⟨rfl, hb8⟩
              have HB8 := Lib.hid (onF HB6.out (onF (below_drewA _ _) hb8))
              clear hb8
              go_wp2_with fail
              go_ret
              exact ⟨rfl, HB8.out⟩
  · have nl : (60 : Int) < (l.length : Int) := by omega
    go_enter Try.func4, Try.ntmps4
    go_wp2_with fail
    refine HN.out.mono ?_
    rintro e w1 ⟨a, q, bm, rfl, hA, hb⟩
    have HB := Lib.hid hb
    clear hA hb HN
    go_wp2_with fail
    refine (HAw.out _).mono ?_
    rintro e w2 ⟨rfl, hb2⟩
    have HB2 := Lib.hid (onF HB.out hb2)
    clear hb2 HAw
    go_wp2_with fail
    go_ret
    exact ⟨rfl, HB2.out⟩

end Go.Proofs.Ytkfcaafjnolhgaa
