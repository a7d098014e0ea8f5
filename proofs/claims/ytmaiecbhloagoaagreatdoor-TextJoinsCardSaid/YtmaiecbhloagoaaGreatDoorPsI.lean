/-
  Package text: word, observed, contract: what they answer.
-/
import Derived.Test.YtmaiecbhloagoaaGreatDoorPsH
namespace Go.Proofs.YtmaiecbhloagoaaGreatDoor
open Go.RowKit Go.Lib
set_option linter.unusedVariables false
set_option linter.unusedSimpArgs false

theorem begin_any (P : Nat → Prop) (B : Nat) (s : ByteArray) (m : Mc) (n : Nd) (k : Nat) (hk : k < 18) (hop : n.op = (k : Int)) (hN : m.N.length ≤ 64) (hD : m.D.length ≤ 10000) (w : World) (H : PsM w P B s m) (Hd : HdW w) (C : KndW w) (hPk : P 0 ∧ P 1) :
    Calls Tryz.prog 95 #[.pointer (some ⟨B, 0, none⟩), .agg (ndV n)] w (TakeE P B s (begM n k m) w) := by
  unfold begM
  by_cases h : 64 ≤ m.N.length ∨ 12 ≤ m.o
  · rw [if_pos h]; exact begin_no P B s m n h (by omega) w H
  · rw [if_neg h]; exact begin_yes P B s m n k hk hop (by omega) (by omega) hD w H Hd C hPk
/-- The whole table as a value. -/
def hdA : List Value := (List.range 18).flatMap fun k => [.string ⟨(wdN k).toArray⟩, .int .i64 (fdC k 0), .int .i64 (fdC k 1)]
theorem hdA_len : ∀ n : Nat, ((List.range n).flatMap fun k => [Value.string ⟨(wdN k).toArray⟩, .int .i64 (fdC k 0), .int .i64 (fdC k 1)]).length = n * 3
  | 0 => rfl
  | n + 1 => by
    rw [List.range_succ, List.flatMap_append, List.length_append, hdA_len n]
    simp; omega
theorem hdA_get : ∀ (n j : Nat), ((List.range n).flatMap fun k => [Value.string ⟨(wdN k).toArray⟩, .int .i64 (fdC k 0), .int .i64 (fdC k 1)])[j]? = if j < n * 3 then [Value.string ⟨(wdN (j / 3)).toArray⟩, .int .i64 (fdC (j / 3) 0), .int .i64 (fdC (j / 3) 1)][j % 3]? else none
  | 0, j => by simp
  | n + 1, j => by
    have hl := hdA_len n
    rw [List.range_succ, List.flatMap_append]
    by_cases h : j < n * 3
    · rw [List.getElem?_append_left (by omega), hdA_get n j, if_pos h, if_pos (by omega)]
    · rw [List.getElem?_append_right (by omega), hl]
      by_cases h2 : j < (n + 1) * 3
      · rw [if_pos h2, show j / 3 = n by omega, show j - n * 3 = j % 3 by omega]
        simp
      · rw [if_neg h2, List.getElem?_eq_none (by simp; omega)]
theorem hd_load (w : World) (H : HdW w) : (loadVar 101 ⟨0, 0, none⟩).run Tryz.prog w = .ok (.agg hdA.toArray) w := by
  have hl : (loadCells ⟨0, 0, none⟩ hdA.length).run Tryz.prog w = .ok hdA.toArray w :=
    run_loadCells_list (P := Tryz.prog) w ⟨0, 0, none⟩ hdA (fun j v hv => by
      unfold hdA at hv
      rw [hdA_get] at hv
      by_cases h : j < 18 * 3
      · rw [if_pos h] at hv
        obtain ⟨q, r, hr, rfl⟩ : ∃ q r, r < 3 ∧ j = q * 3 + r := ⟨j / 3, j % 3, by omega, by omega⟩
        rw [show (q * 3 + r) / 3 = q by omega, show (q * 3 + r) % 3 = r by omega] at hv
        rw [Go.WideShapes.add_plain, Nat.zero_add]
        match r, hr, hv with
        | 0, _, hv => rw [Nat.add_zero, H.c0 q (by omega)]; exact hv
        | 1, _, hv => rw [H.c1 q (by omega)]; exact hv
        | 2, _, hv => rw [H.c2 q (by omega)]; exact hv
      · rw [if_neg h] at hv; cases hv)
  rw [show hdA.length = 54 by rfl] at hl
  have hu : Tryz.prog.underlying 101 = some (.array 18 100) := Tryz.underlying101
  have hi : (Tryz.prog.info? 101).map (·.size) = some 54 := by kernel_rfl
  cases hq : Tryz.prog.info? 101 with
  | none => simp [hq] at hi
  | some i =>
    have hs : i.size = 54 := by simpa [hq] using hi
    have hagg : (isAgg 101).run Tryz.prog w = .ok true w := by
      unfold isAgg
      rw [Sem.run_bind, run_underlying hu w]
      rfl
    simp [loadVar, Sem.run_bind, hagg, sizeOf, typeInfo, hq, hs, hl]
theorem wpList_load_heads {w : World} {ops : Array Oper} {rest : List Oper} {o : Oper} {a : Act} {Q : Exit → Act → World → Prop} (A : Array Value) (hgd : o.guard = none) (ho : o.op = .load 101 (.global 0))
    (hl : (loadVar 101 ⟨0, 0, none⟩).run Tryz.prog w = .ok (.agg A) w) (h : wpList Tryz.prog ops Q rest (a.put o.dst (.agg A)) w) : wpList Tryz.prog ops Q (o :: rest) a w := by
  refine wpList_plain hgd fun K hK => ?_
  unfold Oper.wp execOp
  have hx : a.eval (.global 0) = .pointer (some ⟨0, 0, none⟩) := rfl
  simp only [ho, hx, Instr.loadAt, Instr.sureAddr, Sem.run_bind, Sem.run_pure, Result.andThen_ok, hl]
  exact hK _ _ h
theorem hd_index (k : Nat) (hk : k < 18) (w : World) : (Instr.index 101 (.agg hdA.toArray) (.int .i64 (k : Int))).run Tryz.prog w = .ok (.agg #[.string ⟨(wdN k).toArray⟩, .int .i64 (fdC k 0), .int .i64 (fdC k 1)]) w :=
  match k, hk with
  | 0, _ => by kernel_rfl
  | 1, _ => by kernel_rfl
  | 2, _ => by kernel_rfl
  | 3, _ => by kernel_rfl
  | 4, _ => by kernel_rfl
  | 5, _ => by kernel_rfl
  | 6, _ => by kernel_rfl
  | 7, _ => by kernel_rfl
  | 8, _ => by kernel_rfl
  | 9, _ => by kernel_rfl
  | 10, _ => by kernel_rfl
  | 11, _ => by kernel_rfl
  | 12, _ => by kernel_rfl
  | 13, _ => by kernel_rfl
  | 14, _ => by kernel_rfl
  | 15, _ => by kernel_rfl
  | 16, _ => by kernel_rfl
  | 17, _ => by kernel_rfl
  | k + 18, h => absurd h (by omega)
theorem takeE_mono {P : Nat → Prop} {B : Nat} {s : ByteArray} {r : Nat × Mc} {w w1 : World} (hk : KpP P w w1) {e : Ending} {w' : World} (h : TakeE P B s r w1 e w') : TakeE P B s r w e w' := ⟨h.1, h.2.1, hk.trans h.2.2⟩
theorem findW_hit {w : List UInt8} {s k : Nat} (h : findW w s k = none) (h1 : wdN k = w) (h2 : mkT.getD k 0 = s) : findW w s (k + 1) = some k := by
  rw [findW, h]; simp only; rw [if_pos ⟨h1, h2⟩]
theorem findW_miss {w : List UInt8} {s k : Nat} (h : findW w s k = none) (h1 : ¬ (wdN k = w ∧ mkT.getD k 0 = s)) : findW w s (k + 1) = none := by
  rw [findW, h]; simp only; rw [if_neg h1]
theorem findW_stay {w : List UInt8} {s j k : Nat} (h : findW w s j = some k) : ∀ m, j ≤ m → findW w s m = some k
  | 0, hm => by obtain rfl : j = 0 := by omega
                exact h
  | m + 1, hm => by
    by_cases e : j = m + 1
    · rw [← e]; exact h
    · have := findW_stay h m (by omega)
      rw [findW, this]

set_option maxHeartbeats 4000000 in
set_option maxRecDepth 100000 in
theorem word_any (P : Nat → Prop) (B : Nat) (s : ByteArray) (m : Mc) (hN : m.N.length ≤ 64) (hD : m.D.length ≤ 10000) (sort : Nat) (hs : sort ≤ 10) (l : List UInt8) (w : World) (H : PsM w P B s m) (Hd : HdW w) (C : KndW w) (hPk : P 0 ∧ P 1) :
    Calls Tryz.prog 96 #[.pointer (some ⟨B, 0, none⟩), .int .i64 (sort : Int), .string ⟨l.toArray⟩] w (TakeE P B s (wordM sort l m) w) := by
  have hlt : ∀ k, P k → k < w.heap.size := by obtain ⟨_, _, h⟩ := H; exact h.lt
  have HL := Lib.hid hlt
  have HH := Lib.hid H
  have HD := Lib.hid Hd
  have HC := Lib.hid C
  have kl := hd_load w Hd
  have HI := Lib.hid (fun k hk w => hd_index k hk w)
  have HW : Hid (wordM sort l m = match findW l sort 18 with | some k => begM ⟨k, 0, 0, 0, 0⟩ k m | none => (13, m)) := Lib.hid rfl
  generalize wordM sort l m = R at *
  obtain ⟨A, hA⟩ : ∃ A, A = hdA.toArray := ⟨_, rfl⟩
  rw [← hA] at kl HI
  clear hA H Hd C hlt
  go_enter Tryz.func96, Tryz.ntmps96
  go_wp2_with (refine wpList_load_heads A rfl rfl kl ?_)
  clear kl
  go_loopw [10] (fun vk wx => ∃ k : Nat, k ≤ 18 ∧ vk = .int .i64 k ∧ findW l sort k = none ∧ Below w.heap.size w wx) (fun vk _ => 18 - (RowKit.intOf vk).toNat)
  case atStart => exact ⟨0, by omega, rfl, rfl, Below.refl _ _⟩
  case round =>
    obtain ⟨k, hk, rfl, hf, hb⟩ := hrel
    have HF := Lib.hid hf
    have HB := Lib.hid hb
    by_cases hlt : k < 18
    · have ki := HI.out k hlt
      have HSt := Lib.hid (fun (w' : World) (hb' : Below wr.heap.size wr w') => tsort_any (k : Int) w' ((HC.out.keep HB.out).keep hb'))
      have hix : ixO (k : Int) = k := by unfold ixO; rw [if_pos ⟨by omega, by omega⟩]; rfl
      rw [show mkO (k : Int) = mkT.getD k 0 by unfold mkO; rw [hix]] at HSt
      have HHit := Lib.hid (findW_hit (k := k) hf)
      have HMiss := Lib.hid (findW_miss (k := k) hf)
      have HBg := Lib.hid (fun (w' : World) (hb' : Below w.heap.size w w') => begin_any P B s m ⟨(k : Int), 0, 0, 0, 0⟩ k hlt rfl hN hD w' (HH.out.keep hb') (HD.out.keep hb') (HC.out.keep hb') hPk)
      rw [show ndV ⟨(k : Int), 0, 0, 0, 0⟩ = #[.int .i64 (k : Int), .int .i64 0, .int .i64 0, .int .i64 0, .int .i64 0] from rfl] at HBg
      have k0 : (0 : Int) ≤ (k : Int) := by omega
      have k1 : (k : Int) < 18 := by omega
      have HK := Lib.hid hlt
      have HNew := Lib.hid (newB wr)
      generalize hwd : wdN k = wd at *
      generalize hmt : mkT.getD k 0 = mt at *
      generalize fdC k 0 = f0 at *
      generalize fdC k 1 = f1 at *
      clear hix hf hb hwd hmt
      by_cases h1 : wd = l
      · subst h1
        by_cases h2 : mt = sort
        · subst h2
          have HR : Hid (R = begM ⟨k, 0, 0, 0, 0⟩ k m) := Lib.hid (by rw [HW.out, findW_stay (HHit.out rfl rfl) 18 (by have := HK.out; omega)])
          go_wp2_with fail
          refine (HSt.out _ (HNew.out _)).mono ?_
          rintro e w1 ⟨rfl, hb1⟩
          have HB1 := Lib.hid (onB HB.out (onB (HNew.out _) hb1))
          clear hb1
          go_wp2_with fail
          refine (HBg.out _ HB1.out).mono ?_
          rintro e w2 ⟨rfl, hq, hkp⟩
          have HQ := Lib.hid hq
          have HKp := Lib.hid hkp
          clear hq hkp
          go_wp2_with fail
          go_ret
          rw [HR.out]
          exact ⟨rfl, HQ.out, (KpP.of HB1.out HL.out).trans HKp.out⟩
        · have h2' : ((mt : Int) == (sort : Int)) = false := by simp; omega
          have HM := Lib.hid (HMiss.out (fun h => h2 h.2))
          clear h2
          go_wp2_with fail
          refine (HSt.out _ (HNew.out _)).mono ?_
          rintro e w1 ⟨rfl, hb1⟩
          have HB1 := Lib.hid (onB HB.out (onB (HNew.out _) hb1))
          clear hb1
          go_wp2_with fail
          go_roundw
          case rel => exact ⟨k + 1, by omega, by go_num, HM.out, HB1.out⟩
          case measure => simp [RowKit.intOf]; omega
      · have h1' : (wd == l) = false := by simpa using h1
        have HM := Lib.hid (HMiss.out (fun h => h1 h.1))
        go_wp2_with fail
        go_roundw
        case rel => exact ⟨k + 1, by omega, by go_num, HM.out, onB HB.out (HNew.out _)⟩
        case measure => simp [RowKit.intOf]; omega
    · obtain rfl : k = 18 := by omega
      have HR : Hid (R = (13, m)) := Lib.hid (by rw [HW.out, HF.out])
      clear hf hb
      go_wp2_with fail
      go_ret
      rw [HR.out]
      exact ⟨rfl, fun h => (by cases h), KpP.of HB.out HL.out⟩

end Go.Proofs.YtmaiecbhloagoaaGreatDoor
