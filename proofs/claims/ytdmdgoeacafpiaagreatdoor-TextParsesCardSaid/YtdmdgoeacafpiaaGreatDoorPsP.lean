/-
  Package text: field, headOf: what they answer.
-/
import Derived.Test.YtdmdgoeacafpiaaGreatDoorPq
import Derived.Test.YtdmdgoeacafpiaaGreatDoorTrm
import Derived.Test.YtdmdgoeacafpiaaGreatDoorTxt
import Derived.Test.YtdmdgoeacafpiaaGreatDoorDyA
namespace Go.Proofs.YtdmdgoeacafpiaaGreatDoor
open Go.RowKit Go.Lib
set_option linter.unusedVariables false
set_option linter.unusedSimpArgs false

def dayT (d : Nat) : List UInt8 := dayL (yrN d) (moN d) (daN d)
/-- A field's text. -/
def fieldX (n : Nd) (f : Nat) : List UInt8 :=
  match f with
  | 6 => curN n.a.toNat
  | 7 => itoa n.a
  | 8 => dayT n.a.toNat
  | _ => dayT n.b.toNat
/-- How a node's text begins. -/
def hdX (n : Nd) : List UInt8 := if n.op = 1 then txt n.num n.den else wdN (ixO n.op) ++ (fdN (ixO n.op)).flatMap (fun f => 32 :: fieldX n f)
/-- A field that may be. -/
def okF (n : Nd) (f : Nat) : Prop :=
  match f with
  | 6 => 0 ≤ n.a ∧ n.a < 8
  | 7 => 0 ≤ n.a ∧ n.a ≤ 63
  | 8 => 0 ≤ n.a ∧ n.a ≤ 73048
  | _ => 0 ≤ n.b ∧ n.b ≤ 73048
theorem fieldX_len (n : Nd) (f : Nat) (h : okF n f) : (fieldX n f).length ≤ 20 := by
  match f, h with
  | 6, h =>
    show (curN n.a.toNat).length ≤ 20
    have : ∀ k : Fin 8, (curN k.val).length ≤ 20 := by decide
    exact this ⟨n.a.toNat, by have := h.1; have := h.2; omega⟩
  | 7, h => exact itoa_len20 (by have := h.1; omega) (by have := h.2; omega)
  | 8, _ => show (dayL _ _ _).length ≤ 20; rw [dayL_len]; omega
  | 0, _ | 1, _ | 2, _ | 3, _ | 4, _ | 5, _ | 9, _ | _ + 10, _ => show (dayL _ _ _).length ≤ 20; rw [dayL_len]; omega

structure TbP (w : World) : Prop where
  lib : LibW w
  cur : CurW w
  len : LenW w
  hd : HdW w
theorem TbP.keep {w w' : World} (h : TbP w) (hb : Below w.heap.size w w') : TbP w' := ⟨h.lib.keep hb, h.cur.keep hb, h.len.keep hb, h.hd.keep hb⟩

set_option maxHeartbeats 1000000 in
set_option maxRecDepth 100000 in
theorem field_any (n : Nd) (f : Nat) (hf : 6 ≤ f ∧ f < 10) (h : okF n f) (w : World) (T : TbP w) :
    Calls Tryz.prog 57 #[.agg (ndV n), .int .i64 (f : Int)] w fun e w' => e = .returned (.string ⟨(fieldX n f).toArray⟩) ∧ Below w.heap.size w w' := by
  have HB0 := Lib.hid (newB w (.cells (ndV n) 52))
  have HT := Lib.hid (T.keep HB0.out)
  obtain ⟨n0, n1, n2, n3, n4⟩ := nd_cells w n 52
  unfold ndV at *
  clear T
  obtain ⟨op, a, b, num, den⟩ := n
  dsimp only at *
  match f, hf, h with
  | 6, _, h =>
    have h1 : 0 ≤ a := h.1
    have h2 : a < 8 := h.2
    have HC := Lib.hid (name_ok a.toNat (by omega) _ HT.out.cur)
    rw [Int.toNat_of_nonneg h1] at HC
    show Calls _ _ _ _ (fun e w' => e = .returned (.string ⟨(curN a.toNat).toArray⟩) ∧ _)
    generalize curN a.toNat = X at *
    clear h HT
    go_enter Tryz.func57, Tryz.ntmps57
    go_wp2_with fail
    refine HC.out.mono ?_
    rintro e w1 ⟨rfl, rfl⟩
    go_wp2_with fail
    go_ret
    exact ⟨rfl, HB0.out⟩
  | 7, _, h =>
    have h1 : 0 ≤ a := h.1
    have h2 : a ≤ 63 := h.2
    have HC := Lib.hid (itoa_any a _ HT.out.lib (by omega) (by omega))
    show Calls _ _ _ _ (fun e w' => e = .returned (.string ⟨(itoa a).toArray⟩) ∧ _)
    generalize itoa a = X at *
    clear h HT
    go_enter Tryz.func57, Tryz.ntmps57
    go_wp2_with fail
    refine HC.out.mono ?_
    rintro e w1 ⟨rfl, hb⟩
    go_wp2_with fail
    go_ret
    exact ⟨rfl, onB HB0.out hb⟩
  | 8, _, h =>
    have h1 : 0 ≤ a := h.1
    have h2 : a ≤ 73048 := h.2
    have HC := Lib.hid (print_any a.toNat (by omega) _ HT.out.len)
    rw [Int.toNat_of_nonneg h1] at HC
    show Calls _ _ _ _ (fun e w' => e = .returned (.string ⟨(dayL (yrN a.toNat) (moN a.toNat) (daN a.toNat)).toArray⟩) ∧ _)
    generalize dayL (yrN a.toNat) (moN a.toNat) (daN a.toNat) = X at *
    clear h HT
    go_enter Tryz.func57, Tryz.ntmps57
    go_wp2_with fail
    refine HC.out.mono ?_
    rintro e w1 ⟨rfl, hb⟩
    go_wp2_with fail
    go_ret
    exact ⟨rfl, onB HB0.out hb⟩
  | 9, _, h =>
    have h1 : 0 ≤ b := h.1
    have h2 : b ≤ 73048 := h.2
    have HC := Lib.hid (print_any b.toNat (by omega) _ HT.out.len)
    rw [Int.toNat_of_nonneg h1] at HC
    show Calls _ _ _ _ (fun e w' => e = .returned (.string ⟨(dayL (yrN b.toNat) (moN b.toNat) (daN b.toNat)).toArray⟩) ∧ _)
    generalize dayL (yrN b.toNat) (moN b.toNat) (daN b.toNat) = X at *
    clear h HT
    go_enter Tryz.func57, Tryz.ntmps57
    go_wp2_with fail
    refine HC.out.mono ?_
    rintro e w1 ⟨rfl, hb⟩
    go_wp2_with fail
    go_ret
    exact ⟨rfl, onB HB0.out hb⟩
  | 0, h, _ | 1, h, _ | 2, h, _ | 3, h, _ | 4, h, _ | 5, h, _ | _ + 10, h, _ => exact absurd h (by omega)

/-- A node whose fields may be. -/
def okN (n : Nd) : Prop := 1 ≤ n.op ∧ n.op < 18 ∧ (n.op = 1 → chkE n.num n.den = 0 ∧ I64T n.num ∧ I64T n.den) ∧ ∀ f ∈ fdN (ixO n.op), okF n f
theorem fd_some : ∀ k : Fin 18, fdN k.val = (if fdC k.val 0 = 0 then [] else [fdC k.val 0]) ++ (if fdC k.val 1 = 0 then [] else [fdC k.val 1]) ∧ (fdC k.val 0 = 0 ∨ (6 ≤ fdC k.val 0 ∧ fdC k.val 0 < 10)) ∧ (fdC k.val 1 = 0 ∨ (6 ≤ fdC k.val 1 ∧ fdC k.val 1 < 10)) := by decide
theorem wd_len : ∀ k : Fin 18, (wdN k.val).length ≤ 5 := by decide
/-- The text of the first fields. -/
def fdX (n : Nd) (f0 f1 : Nat) (j : Nat) : List UInt8 := (if 0 < j ∧ f0 ≠ 0 then 32 :: fieldX n f0 else []) ++ (if 1 < j ∧ f1 ≠ 0 then 32 :: fieldX n f1 else [])

set_option maxHeartbeats 4000000 in
set_option maxRecDepth 100000 in
theorem headof_any (n : Nd) (h : okN n) (w : World) (T : TbP w) :
    Calls Tryz.prog 30 #[.agg (ndV n)] w fun e w' => e = .returned (.string ⟨(hdX n).toArray⟩) ∧ Below w.heap.size w w' := by
  have HB0 := Lib.hid (newB w (.cells (ndV n) 52))
  have HT := Lib.hid (T.keep HB0.out)
  obtain ⟨n0, n1, n2, n3, n4⟩ := nd_cells w n 52
  obtain ⟨h1, h2, h3, h4⟩ := h
  clear T
  by_cases ho : n.op = 1
  · obtain ⟨hk, ⟨a1, a2⟩, ⟨b1, b2⟩⟩ := h3 ho
    have HP := Lib.hid (print_ok n.num n.den _ HT.out.lib a1 a2 b1 b2 hk)
    have hX : hdX n = txt n.num n.den := by unfold hdX; rw [if_pos ho]
    rw [hX]
    generalize txt n.num n.den = X at *
    rw [ho] at n0
    have hV : ndV n = #[.int .i64 1, .int .i64 n.a, .int .i64 n.b, .int .i64 n.num, .int .i64 n.den] := by unfold ndV; rw [ho]
    rw [hV] at HB0 HT HP n0 n1 n2 n3 n4 ⊢
    clear h1 h2 h3 h4 hk hX ho hV
    go_enter Tryz.func30, Tryz.ntmps30
    go_wp2_with fail
    refine HP.out.mono ?_
    rintro e w1 ⟨rfl, hb⟩
    go_wp2_with fail
    go_ret
    exact ⟨rfl, onB HB0.out hb⟩
  · obtain ⟨k, hk, hk18⟩ : ∃ k : Nat, n.op = (k : Int) ∧ k < 18 := ⟨n.op.toNat, by omega, by omega⟩
    have hix : ixO n.op = k := by unfold ixO; rw [if_pos ⟨by omega, h2⟩, hk]; rfl
    have hX : hdX n = wdN k ++ (fdN k).flatMap (fun f => 32 :: fieldX n f) := by unfold hdX; rw [if_neg ho, hix]
    obtain ⟨s1, s2, s3⟩ := fd_some ⟨k, hk18⟩
    have hw5 := wd_len ⟨k, hk18⟩
    dsimp only at s1 s2 s3 hw5
    rw [hix] at h4
    have c0 := HT.out.hd.c0 k hk18
    have c1 := HT.out.hd.c1 k hk18
    have c2 := HT.out.hd.c2 k hk18
    have HF := Lib.hid (fun f (h6 : 6 ≤ f ∧ f < 10) (hf : f ∈ fdN k) (w' : World) (hb : Below (w.alloc (.cells (ndV n) 52)).heap.size (w.alloc (.cells (ndV n) 52)) w') => field_any n f h6 (h4 f hf) w' (HT.out.keep hb))
    have hfl : ∀ f ∈ fdN k, (fieldX n f).length ≤ 20 := fun f hf => fieldX_len n f (h4 f hf)
    have hF0 : fdC k 0 ≠ 0 → fdC k 0 ∈ fdN k := fun h => by rw [s1, if_neg h]; simp
    have hF1 : fdC k 1 ≠ 0 → fdC k 1 ∈ fdN k := fun h => by rw [s1, if_neg h]; simp
    have hX2 : hdX n = wdN k ++ fdX n (fdC k 0) (fdC k 1) 2 := by
      rw [hX, s1]
      unfold fdX
      by_cases a : fdC k 0 = 0 <;> by_cases b : fdC k 1 = 0 <;> simp [a, b]
    have HG0 : Hid (fdC k 0 ≠ 0 → (fieldX n (fdC k 0)).length ≤ 20 ∧ ∀ w', Below (w.alloc (.cells (ndV n) 52)).heap.size (w.alloc (.cells (ndV n) 52)) w' → Calls Tryz.prog 57 #[.agg (ndV n), .int .i64 ((fdC k 0 : Nat) : Int)] w' fun e w'' => e = .returned (.string ⟨(fieldX n (fdC k 0)).toArray⟩) ∧ Below w'.heap.size w' w'') :=
      Lib.hid (fun h => ⟨hfl _ (hF0 h), fun w' hb => HF.out _ (by rcases s2 with e | e; exact absurd e h; exact e) (hF0 h) w' hb⟩)
    have HG1 : Hid (fdC k 1 ≠ 0 → (fieldX n (fdC k 1)).length ≤ 20 ∧ ∀ w', Below (w.alloc (.cells (ndV n) 52)).heap.size (w.alloc (.cells (ndV n) 52)) w' → Calls Tryz.prog 57 #[.agg (ndV n), .int .i64 ((fdC k 1 : Nat) : Int)] w' fun e w'' => e = .returned (.string ⟨(fieldX n (fdC k 1)).toArray⟩) ∧ Below w'.heap.size w' w'') :=
      Lib.hid (fun h => ⟨hfl _ (hF1 h), fun w' hb => HF.out _ (by rcases s3 with e | e; exact absurd e h; exact e) (hF1 h) w' hb⟩)
    rw [hX2]
    have HD : Hid (fdX n (fdC k 0) (fdC k 1) 1 = fdX n (fdC k 0) (fdC k 1) 0 ++ (if fdC k 0 ≠ 0 then 32 :: fieldX n (fdC k 0) else []) ∧ fdX n (fdC k 0) (fdC k 1) 2 = fdX n (fdC k 0) (fdC k 1) 1 ++ (if fdC k 1 ≠ 0 then 32 :: fieldX n (fdC k 1) else []) ∧ fdX n (fdC k 0) (fdC k 1) 0 = []) := Lib.hid (by unfold fdX; simp)
    have i0 : (0 : Int) ≤ (k : Int) := by omega
    have i1 : (k : Int) < 18 := by omega
    have i2 : ((k : Int) == 1) = false := by simp; omega
    rw [hk] at n0
    have hV : ndV n = #[.int .i64 (k : Int), .int .i64 n.a, .int .i64 n.b, .int .i64 n.num, .int .i64 n.den] := by unfold ndV; rw [hk]
    rw [hV] at HB0 n0 n1 n2 n3 n4 HG0 HG1 c0 c1 c2 ⊢
    have HN : Hid (∀ w', Below (w.alloc (.cells #[.int .i64 (k : Int), .int .i64 n.a, .int .i64 n.b, .int .i64 n.num, .int .i64 n.den] 52)).heap.size (w.alloc (.cells #[.int .i64 (k : Int), .int .i64 n.a, .int .i64 n.b, .int .i64 n.num, .int .i64 n.den] 52)) w' → w'.cell? ⟨w.heap.size, 0, none⟩ = some (.int .i64 (k : Int)) ∧ w'.cell? ⟨w.heap.size, 1, none⟩ = some (.int .i64 n.a) ∧ w'.cell? ⟨w.heap.size, 2, none⟩ = some (.int .i64 n.b) ∧ w'.cell? ⟨w.heap.size, 3, none⟩ = some (.int .i64 n.num) ∧ w'.cell? ⟨w.heap.size, 4, none⟩ = some (.int .i64 n.den)) := Lib.hid (fun w' hb => ⟨keepT hb n0, keepT hb n1, keepT hb n2, keepT hb n3, keepT hb n4⟩)
    generalize fieldX n (fdC k 0) = F0 at *
    generalize fieldX n (fdC k 1) = F1 at *
    generalize fdX n (fdC k 0) (fdC k 1) = G at *
    generalize fdC k 0 = f0 at *
    generalize fdC k 1 = f1 at *
    generalize wdN k = Wd at *
    have ki0 : ∀ W, (Instr.index 90 (.agg #[.int .i64 f0, .int .i64 f1]) (.int .i64 0)).run Tryz.prog W = .ok (.int .i64 f0) W := fun W => by kernel_rfl
    have ki1 : ∀ W, (Instr.index 90 (.agg #[.int .i64 f0, .int .i64 f1]) (.int .i64 1)).run Tryz.prog W = .ok (.int .i64 f1) W := fun W => by kernel_rfl
    clear h1 h2 h3 h4 hX hX2 hix hk hV s1 s2 s3 hfl hF0 hF1 HF HT ho n1 n2 n3 n4
    obtain ⟨_, na, nb, num, den⟩ := n
    dsimp only at *
    go_enter Tryz.func30, Tryz.ntmps30
    go_wp2_with fail
    clear c0 c1 c2 n0
    go_loopw [5, 28] (fun va vj wx => ∃ j : Nat, j ≤ 2 ∧ vj = .int .i64 j ∧ va = .string ⟨(Wd ++ G j).toArray⟩ ∧ (G j).length ≤ 21 * j ∧ Below (w.alloc (.cells #[.int .i64 (k : Int), .int .i64 na, .int .i64 nb, .int .i64 num, .int .i64 den] 52)).heap.size (w.alloc (.cells #[.int .i64 (k : Int), .int .i64 na, .int .i64 nb, .int .i64 num, .int .i64 den] 52)) wx) (fun _ vj _ => 2 - (RowKit.intOf vj).toNat)
    case atStart => exact ⟨0, by omega, rfl, by rw [HD.out.2.2, List.append_nil], by rw [HD.out.2.2]; simp, Below.refl _ _⟩
    case round =>
      obtain ⟨j, hj, rfl, rfl, hgl, hb⟩ := hrel
      have HB := Lib.hid hb
      obtain ⟨m0, m1, m2, m3, m4⟩ := HN.out _ hb
      have hsz : (Wd ++ G j).length ≤ 50 := by rw [List.length_append]; omega
      match j, hj with
      | 0, _ =>
        generalize hY : Wd ++ G 0 = Y at *
        have HY := Lib.hid hY
        by_cases hz : f0 = 0
        · have hz' : ((f0 : Int) == 0) = true := by simp [hz]
          have HZ := Lib.hid hz
          clear hz hb hY
          go_wp2_with fail
          go_roundw
          case rel => exact ⟨1, by omega, by go_num, by rw [HD.out.1, if_neg (by simp [HZ.out]), List.append_nil, HY.out], by rw [HD.out.1, if_neg (by simp [HZ.out]), List.append_nil]; omega, HB.out⟩
          case measure => simp [RowKit.intOf]
        · have hz' : ((f0 : Int) == 0) = false := by simp; omega
          obtain ⟨g1, g2⟩ := HG0.out hz
          have HC := Lib.hid (g2 _ hb)
          have HZ := Lib.hid hz
          have l1 : ¬ 9223372036854775807 < 1 + F0.length := by omega
          have l2 : ¬ 9223372036854775807 < Y.length + (1 + F0.length) := by omega
          have HL := Lib.hid g1
          clear hz hb hY g2
          go_wp2_with fail
          refine HC.out.mono ?_
          rintro e w1 ⟨rfl, hb1⟩
          have HB1 := Lib.hid (HB.out.trans (hb1.mono HB.out.size))
          clear hb1
          go_wp2_with fail
          go_roundw
          case rel => exact ⟨1, by omega, by go_num, by rw [HD.out.1, if_pos HZ.out, ← List.append_assoc, HY.out]; simp [ByteArray.mk_append_mk], by rw [HD.out.1, if_pos HZ.out, HD.out.2.2]; have := HL.out; simp; omega, HB1.out⟩
          case measure => simp [RowKit.intOf]
      | 1, _ =>
        generalize hY : Wd ++ G 1 = Y at *
        have HY := Lib.hid hY
        by_cases hz : f1 = 0
        · have hz' : ((f1 : Int) == 0) = true := by simp [hz]
          have HZ := Lib.hid hz
          clear hz hb hY
          go_wp2_with fail
          go_roundw
          case rel => exact ⟨2, by omega, by go_num, by rw [HD.out.2.1, if_neg (by simp [HZ.out]), List.append_nil, HY.out], by rw [HD.out.2.1, if_neg (by simp [HZ.out]), List.append_nil]; omega, HB.out⟩
          case measure => simp [RowKit.intOf]
        · have hz' : ((f1 : Int) == 0) = false := by simp; omega
          obtain ⟨g1, g2⟩ := HG1.out hz
          have HC := Lib.hid (g2 _ hb)
          have HZ := Lib.hid hz
          have l1 : ¬ 9223372036854775807 < 1 + F1.length := by omega
          have l2 : ¬ 9223372036854775807 < Y.length + (1 + F1.length) := by omega
          have HL := Lib.hid g1
          have HGL := Lib.hid hgl
          clear hz hb hY g2
          go_wp2_with fail
          refine HC.out.mono ?_
          rintro e w1 ⟨rfl, hb1⟩
          have HB1 := Lib.hid (HB.out.trans (hb1.mono HB.out.size))
          clear hb1
          go_wp2_with fail
          go_roundw
          case rel => exact ⟨2, by omega, by go_num, by rw [HD.out.2.1, if_pos HZ.out, ← List.append_assoc, HY.out]; simp [ByteArray.mk_append_mk], by rw [HD.out.2.1, if_pos HZ.out]; have := HL.out; have := HGL.out; simp; omega, HB1.out⟩
          case measure => simp [RowKit.intOf]
      | 2, _ =>
        clear hb
        go_wp2_with fail
        go_ret
        exact ⟨rfl, onB HB0.out HB.out⟩

end Go.Proofs.YtdmdgoeacafpiaaGreatDoor
