/-
  Package term: told, Keys, Choices, Depth, Horizon; the reference's Keys.
-/
import Derived.Test.YtjafbfepdmgjnaaGreatDoorTrm
import Derived.Lib.Hide
import Derived.WalkKit
import Derived.PlainAid
import Derived.Below
import Derived.Outline
import Derived.WalkSmall
import Derived.BigQuiet
import Derived.Deep.QuietTactic
import Derived.RegionTactic
import Derived.RangeFuncBox
import Derived.RangeFuncNested
import Derived.RangeFuncBound
import Derived.RangeFuncCalls
import Derived.RangeFuncLeaves
import Derived.Shelf.Abstract
import Derived.OwnWalkIn
import Derived.TacticsInMore
import Derived.LoopNIn
import Derived.LoopIn
import Derived.Maps.AppendAt
import Derived.RegionIn
import Derived.Shelf.RegionOpen
import Derived.OrdersIn
import Derived.Deep.RegionHeld3
import Derived.TacticsIn
import Derived.IntWalk
import Derived.Lib.OwnBridge
import Derived.Lib.SlicesCompact
import Derived.Test.YtjafbfepdmgjnaaGreatDoorJnA
import Derived.Laws.AppendOwnNone
import Derived.Test.YtjafbfepdmgjnaaGreatDoorShelf
import Derived.Sort.OwnSortedInts
namespace Go.Proofs.YtjafbfepdmgjnaaGreatDoor
set_option linter.unusedVariables false

end Go.Proofs.YtjafbfepdmgjnaaGreatDoor

namespace Go.Proofs.YtjafbfepdmgjnaaGreatDoor
open Go.RowKit Go.Lib
set_option linter.unusedVariables false

theorem below_drewT (w : World) (n : Nat) : Below w.heap.size w (w.drewN n) := ⟨rfl, rfl, rfl, Nat.le_refl _, fun _ _ => rfl⟩

end Go.Proofs.YtjafbfepdmgjnaaGreatDoor

namespace Go.Proofs.YtjafbfepdmgjnaaGreatDoor
open Go.RowKit Go.Lib
set_option linter.unusedVariables false

end Go.Proofs.YtjafbfepdmgjnaaGreatDoor

namespace Go.Proofs.YtjafbfepdmgjnaaGreatDoor
open Go.RowKit Go.Lib Go.Shelf
set_option linter.unusedVariables false

end Go.Proofs.YtjafbfepdmgjnaaGreatDoor

namespace Go.Proofs.YtjafbfepdmgjnaaGreatDoor
open Go.RowKit Go.Lib Go.Shelf
set_option linter.unusedVariables false

end Go.Proofs.YtjafbfepdmgjnaaGreatDoor

namespace Go.Proofs.YtjafbfepdmgjnaaGreatDoor
open Go.RowKit Go.Lib Go.Shelf
set_option linter.unusedVariables false

end Go.Proofs.YtjafbfepdmgjnaaGreatDoor

namespace Go.Proofs.YtjafbfepdmgjnaaGreatDoor
open Go
set_option linter.unusedVariables false

end Go.Proofs.YtjafbfepdmgjnaaGreatDoor

namespace Go.Proofs.YtjafbfepdmgjnaaGreatDoor
open Go.RowKit Go.Lib Go.Shelf
set_option linter.unusedVariables false

end Go.Proofs.YtjafbfepdmgjnaaGreatDoor

namespace Go.Proofs.YtjafbfepdmgjnaaGreatDoor
open Go.RowKit Go.Lib
set_option linter.unusedVariables false

end Go.Proofs.YtjafbfepdmgjnaaGreatDoor

namespace Go.Proofs.YtjafbfepdmgjnaaGreatDoor
open Go.RowKit Go.Lib
set_option linter.unusedVariables false

end Go.Proofs.YtjafbfepdmgjnaaGreatDoor

namespace Go.Proofs.YtjafbfepdmgjnaaGreatDoor
open Go.RowKit Go.Lib
set_option linter.unusedVariables false

end Go.Proofs.YtjafbfepdmgjnaaGreatDoor

namespace Go.Proofs.YtjafbfepdmgjnaaGreatDoor
open Go.RowKit Go.Lib
set_option linter.unusedVariables false

end Go.Proofs.YtjafbfepdmgjnaaGreatDoor

namespace Go.Proofs.YtjafbfepdmgjnaaGreatDoor
open Go.RowKit Go.Lib
set_option linter.unusedVariables false

end Go.Proofs.YtjafbfepdmgjnaaGreatDoor

namespace Go.Proofs.YtjafbfepdmgjnaaGreatDoor
open Go.RowKit Go.Lib
set_option linter.unusedVariables false

end Go.Proofs.YtjafbfepdmgjnaaGreatDoor

namespace Go.Proofs.YtjafbfepdmgjnaaGreatDoor
open Go.RowKit Go.Lib
set_option linter.unusedVariables false

end Go.Proofs.YtjafbfepdmgjnaaGreatDoor

namespace Go.Proofs.YtjafbfepdmgjnaaGreatDoor
open Go.RowKit Go.Lib
set_option linter.unusedVariables false

end Go.Proofs.YtjafbfepdmgjnaaGreatDoor

namespace Go.Proofs.YtjafbfepdmgjnaaGreatDoor
open Go.RowKit Go.Lib
set_option linter.unusedVariables false

end Go.Proofs.YtjafbfepdmgjnaaGreatDoor

namespace Go.Proofs.YtjafbfepdmgjnaaGreatDoor
open Go.RowKit Go.Lib
set_option linter.unusedVariables false

end Go.Proofs.YtjafbfepdmgjnaaGreatDoor

namespace Go.Proofs.YtjafbfepdmgjnaaGreatDoor
open Go.RowKit Go.Lib
set_option linter.unusedVariables false

end Go.Proofs.YtjafbfepdmgjnaaGreatDoor

namespace Go.Proofs.YtjafbfepdmgjnaaGreatDoor
open Go.RowKit Go.Lib
set_option linter.unusedVariables false

end Go.Proofs.YtjafbfepdmgjnaaGreatDoor

namespace Go.Proofs.YtjafbfepdmgjnaaGreatDoor
open Go.RowKit Go.Lib
set_option linter.unusedVariables false
set_option linter.unusedSimpArgs false

end Go.Proofs.YtjafbfepdmgjnaaGreatDoor

namespace Go.Proofs.YtjafbfepdmgjnaaGreatDoor
open Go.RowKit Go.Lib
set_option linter.unusedVariables false

end Go.Proofs.YtjafbfepdmgjnaaGreatDoor

namespace Go.Proofs.YtjafbfepdmgjnaaGreatDoor
open Go.RowKit Go.Lib
set_option linter.unusedVariables false

theorem jnN_zero (n : Nd) (L : List (List Nd)) : jnN n L 0 = [n] := by simp [jnN]
theorem jnN_mono (n : Nd) (L : List (List Nd)) {j k : Nat} (h : j ≤ k) : (jnN n L j).length ≤ (jnN n L k).length := by
  rw [jnN_len, jnN_len]
  obtain ⟨d, rfl⟩ : ∃ d, k = j + d := ⟨k - j, by omega⟩
  rw [List.take_add, List.flatten_append, List.length_append]; omega
theorem jnK_great {n : Nd} {L : List (List Nd)} {k : Nat} (h : k ≤ L.length) (hg : 64 < (jnN n L k).length) : jnK n L = 15 := by
  have h1 := jnN_mono n L h
  rw [jnN_all] at h1
  have h2 : ofK (n :: L.flatten) = (0, 15) := by
    unfold ofK
    rw [if_pos (by omega)]
  unfold jnK
  rw [h2]; rfl

end Go.Proofs.YtjafbfepdmgjnaaGreatDoor

namespace Go.Proofs.YtjafbfepdmgjnaaGreatDoor
open Go.RowKit Go.Lib
set_option linter.unusedVariables false
set_option linter.unusedSimpArgs false

end Go.Proofs.YtjafbfepdmgjnaaGreatDoor

namespace Go.Proofs.YtjafbfepdmgjnaaGreatDoor
open Go.RowKit Go.Lib
set_option linter.unusedVariables false

theorem ndR_len : ∀ t : List Nd, (ndR t).length = t.length * 5
  | [] => rfl
  | n :: t => by
    have := ndR_len t
    unfold ndR at this ⊢
    rw [List.flatMap_cons, List.length_append, this, List.length_cons]
    show 5 + _ = _
    omega
theorem ndR_app (t u : List Nd) : ndR (t ++ u) = ndR t ++ ndR u := by unfold ndR; rw [List.flatMap_append]
theorem ndR_one {t : List Nd} : ∀ u ∈ ndR t, u.oneCell' = true := by
  intro u hu
  obtain ⟨n, _, h⟩ := List.mem_flatMap.1 hu
  unfold ndL at h
  simp at h
  rcases h with rfl | rfl | rfl | rfl | rfl <;> rfl
theorem nd_news {w : World} {b o : Nat} {t : List Nd} (hN : NdA w b o t) : ∀ j u, (ndR t)[j]? = some u → w.cell? ((⟨b, o, none⟩ : Addr).add j) = some u := by
  intro j u hu
  have hlt : j < t.length * 5 := by rw [← ndR_len]; exact (List.getElem?_eq_some_iff.1 hu).1
  obtain ⟨q, r, hr, rfl⟩ : ∃ q r, r < 5 ∧ j = q * 5 + r := ⟨j / 5, j % 5, by omega, by omega⟩
  have hq : q < t.length := by omega
  obtain ⟨c0, c1, c2, c3, c4⟩ := hN q hq
  rw [ndR_get t q r hq hr] at hu
  rw [Go.WideShapes.add_plain]
  match r, hr with
  | 0, _ => rw [Nat.add_zero, c0]; exact hu
  | 1, _ => rw [← Nat.add_assoc, c1]; exact hu
  | 2, _ => rw [← Nat.add_assoc, c2]; exact hu
  | 3, _ => rw [← Nat.add_assoc, c3]; exact hu
  | 4, _ => rw [← Nat.add_assoc, c4]; exact hu

theorem infoND : (Tryz.prog.info? 57).map (fun i => (i.zero, i.size, i.bytes)) = some (some (.agg #[.int .i64 0, .int .i64 0, .int .i64 0, .int .i64 0, .int .i64 0]), 5, 40) := by kernel_rfl

/-- Nodes appended to nodes of the call's own. -/
theorem wpList_append_nodes {w : World} {ops : Array Oper} {rest : List Oper} {o : Oper} {a : Act} {Q : Exit → Act → World → Prop} (hgd : o.guard = none) (s x : Operand)
    (ho : o.op = .call { callee := .builtin .append, args := #[s, x], argTypes := #[22, 22] })
    (base : Nat) (v : Value) (t : List Nd) (hs : a.eval s = v) (hown : OwnN w base v t) (xv : Value) (u : List Nd) (hx : a.eval x = xv) (hsl : SlT w xv u)
    (hlen : t.length + u.length ≤ 100000) (hbase : base ≤ w.heap.size)
    (h : ∀ v' w', OwnN w' base v' (t ++ u) → w.grownBy w' v.ownBlock → (v'.ownBlock = v.ownBlock ∨ v'.ownBlock = some w.heap.size) → wpList Tryz.prog ops Q rest (a.put o.dst v') w') : wpList Tryz.prog ops Q (o :: rest) a w := by
  obtain ⟨i0, hi0, hz0, hz1, hz2⟩ := info_parts infoND
  have key : ∀ (ad : Addr) (c : Nat) , xv = .slice (some ad) u.length c → (∀ j z, (ndR u)[j]? = some z → w.cell? (ad.add j) = some z) → wpList Tryz.prog ops Q (o :: rest) a w := by
    intro ad c hxv hnews
    refine wpList_append_own_at _ hgd s x 22 ho base 57 i0 _ 5 40 Tryz.underlying22 hi0 hz0 hz1 hz2 rfl (by decide) v t.length (ndR t) hs hown ad u.length c (ndR u) (hx.trans hxv) (ndR_len u) hnews ndR_one (by unfold maxLen; omega) (by omega) hbase ?_
    intro v' w' h1 h2 _ h3
    refine h v' w' ?_ h2 h3
    unfold OwnN
    rw [List.length_append, ndR_app]; exact h1
  rcases hsl with ⟨rfl, ao, c, hv⟩ | ⟨_, b, off, c, hv, _, _, hN⟩
  · cases ao with
    | some ad => exact key ad c hv (fun j z hz => by cases hz)
    | none =>
      subst hv
      refine wpList_plain hgd fun K hK => ?_
      have hrun := run_append_no (P := Tryz.prog) (w := w) base 22 o.type 57 i0 5 Tryz.underlying22 hi0 v _ _ hown c
      unfold Oper.wp
      simp only [execOp, ho, resolve, invoke, builtin, Sem.run_bind, Sem.run_pure, Result.andThen_ok, List.map_toArray, List.map_cons, List.map_nil, hs, hx, hrun]
      exact hK _ _ (h v w (by rw [List.append_nil]; exact hown) ⟨rfl, rfl, rfl, Nat.le_refl _, fun _ _ _ => rfl⟩ (.inl rfl))
  · exact key ⟨b, off, none⟩ c hv (nd_news hN)

/-- Below, behind an append to nodes of the call's own. -/
theorem below_nodes {B base : Nat} {w0 w w' : World} {v : Value} {t : List Nd} (hb : Below B w0 w) (ho : OwnN w base v t) (hB : B ≤ base) (hw : B ≤ w.heap.size) (hg : w.grownBy w' v.ownBlock) : Below B w0 w' := by
  refine hb.grown hg (by omega) (fun k hk => ?_)
  have := World.ownsRow.lt ho k hk
  omega

end Go.Proofs.YtjafbfepdmgjnaaGreatDoor

namespace Go.Proofs.YtjafbfepdmgjnaaGreatDoor
open Go.RowKit Go.Lib Go.Sort
set_option linter.unusedVariables false
set_option linter.unusedSimpArgs false

end Go.Proofs.YtjafbfepdmgjnaaGreatDoor

namespace Go.Proofs.YtjafbfepdmgjnaaGreatDoor
open Go.RowKit Go.Lib
set_option linter.unusedVariables false
set_option linter.unusedSimpArgs false

end Go.Proofs.YtjafbfepdmgjnaaGreatDoor

namespace Go.Proofs.YtjafbfepdmgjnaaGreatDoor
open Go.RowKit Go.Lib
set_option linter.unusedVariables false
set_option linter.unusedSimpArgs false

theorem equal_none (a1 : Option Addr) (n c : Nat) (hn : 0 < n) (hb : n ≤ 1000) (w : World) : Calls Tryz.prog 53 #[.slice a1 n c, .slice none 0 0] w fun e w' => e = .returned (.bool false) ∧ w = w' := by
  have h : ((n : Int) == 0) = false := beq_false_of_ne (by omega)
  have h2 : ¬ (n : Int) = 0 := by omega
  go_enter Tryz.func53, Tryz.ntmps53
  go_wp2_with fail
  go_ret
  exact ⟨rfl, rfl⟩
/-- Two slices of numbers of the call's own: are they the same? -/
theorem equal_own {w : World} {b1 b2 : Nat} {v1 v2 : Value} {l1 l2 : List Int} (h1 : YtjafbfepdmgjnaaGreatDoor.Own w b1 v1 l1) (h2 : YtjafbfepdmgjnaaGreatDoor.Own w b2 v2 l2) (hl1 : l1.length ≤ 1000) (hl2 : l2.length ≤ 1000) :
    Calls Tryz.prog 53 #[v1, v2] w fun e w' => e = .returned (.bool (decide (l1 = l2))) ∧ Below w.heap.size w w' := by
  obtain ⟨a1, c1, rfl⟩ : ∃ a c, v1 = .slice a l1.length c := by
    rcases h1.reads with ⟨rfl, rfl⟩ | ⟨g, cap, rfl, _⟩
    · exact ⟨_, _, rfl⟩
    · exact ⟨_, _, rfl⟩
  obtain ⟨a2, c2, rfl⟩ : ∃ a c, v2 = .slice a l2.length c := by
    rcases h2.reads with ⟨rfl, rfl⟩ | ⟨g, cap, rfl, _⟩
    · exact ⟨_, _, rfl⟩
    · exact ⟨_, _, rfl⟩
  by_cases hz : l1.length = 0
  · have hz' := List.length_eq_zero_iff.1 hz
    subst hz'
    refine (Tryz.slices_Equal_int_empty a1 a2 c1 l2.length c2 w (by omega)).mono ?_
    rintro e w' ⟨rfl, rfl⟩
    refine ⟨?_, Below.refl _ _⟩
    cases l2 with
    | nil => rfl
    | cons x l => simp
  · rcases h2.reads with ⟨e, rfl⟩ | ⟨g2, cap2, e, _, _, hr2⟩
    · injection e with e1 e2 e3
      subst e1 e3
      refine (equal_none a1 l1.length c1 (by omega) hl1 w).mono ?_
      rintro e w' ⟨rfl, rfl⟩
      refine ⟨?_, Below.refl _ _⟩
      rw [decide_eq_false (fun h => hz (by rw [h]; rfl))]
    · injection e with e1 e2 e3
      subst e1 e3
      rcases h1.reads with ⟨_, h⟩ | ⟨g1, cap1, e, _, _, hr1⟩
      · exact absurd (by rw [h]; rfl) hz
      · injection e with e1 e2 e3
        subst e1 e3
        refine (Tryz.slices_Equal_int g1 0 l1.length c1 g2 0 l2.length c2 l1 l2 w (Nat.le_refl _) (Nat.le_refl _) (by omega) (by omega) (fun j hj => hr1 j hj) (fun j hj => hr2 j hj)).mono ?_
        rintro e w' ⟨rfl, q, rfl⟩
        refine ⟨?_, below_drewT w q⟩
        rw [List.take_length, List.take_length]
        by_cases h : l1 = l2
        · rw [decide_eq_true h, h]; simp
        · rw [decide_eq_false h, beq_false_of_ne h]

/-- Two slices lie apart. -/
def Apart (v u : Value) : Prop := ∀ k, v.ownBlock = some k → u.ownBlock ≠ some k
theorem Apart.ne {v u : Value} (h : Apart v u) : v.ownBlock = none ∨ v.ownBlock ≠ u.ownBlock := by
  cases e : v.ownBlock with
  | none => exact .inl rfl
  | some k => exact .inr (fun e2 => h k e e2.symm)
theorem Apart.symm {v u : Value} (h : Apart v u) : Apart u v := fun k h1 h2 => h k h2 h1
theorem Apart.next {v u u' : Value} {w : World} (h : Apart v u) (hl : ∀ k, v.ownBlock = some k → k < w.heap.size) (hat : u'.ownBlock = u.ownBlock ∨ u'.ownBlock = some w.heap.size) : Apart v u' := by
  intro k h1 h2
  rcases hat with e | e
  · exact h k h1 (e.symm.trans h2)
  · have := hl k h1
    rw [e] at h2
    injection h2 with h2
    omega
theorem OwnN.lt {w : World} {base : Nat} {v : Value} {t : List Nd} (h : OwnN w base v t) : ∀ k, v.ownBlock = some k → k < w.heap.size := fun k hk => (World.ownsRow.lt h k hk).2
theorem Own.lt {w : World} {base : Nat} {v : Value} {l : List Int} (h : YtjafbfepdmgjnaaGreatDoor.Own w base v l) : ∀ k, v.ownBlock = some k → k < w.heap.size := fun k hk => (World.ownsRow.lt h k hk).2

theorem hap_next {w : World} {base : Nat} {vt vp vp' : Value} {t : List Nd} (h : Apart vt vp) (ht : OwnN w base vt t) (hat : vp'.ownBlock = vp.ownBlock ∨ vp'.ownBlock = some w.heap.size) : Apart vt vp' := h.next ht.lt hat

/-- What Join answers. -/
def JoinE (n : Nd) (L : List (List Nd)) (w : World) (e : Ending) (w' : World) : Prop :=
  (jnK n L ≠ 0 → e = .returned (.tuple #[.slice none 0 0, .int .i64 (jnK n L)])) ∧ (jnK n L = 0 → ∃ v', e = .returned (.tuple #[v', .int .i64 0]) ∧ OwnN w' w.heap.size v' (n :: L.flatten))
theorem join_fail {n : Nd} {L : List (List Nd)} {w : World} {e : Ending} {w' : World} {r : Nat} (h : jnK n L = r) (hr : r ≠ 0) (he : e = .returned (.tuple #[.slice none 0 0, .int .i64 r])) : JoinE n L w e w' :=
  ⟨fun _ => by rw [h]; exact he, fun h0 => absurd (h.symm.trans h0) hr⟩

set_option maxHeartbeats 8000000 in
set_option maxRecDepth 100000 in
theorem join_any (n : Nd) (L : List (List Nd)) (hL : L.length ≤ 1000) (hls : ∀ j, j < L.length → (L.getD j []).length ≤ 1000) (hbd : BdT (n :: L.flatten)) (a : Option Addr) (cap : Nat) (w : World) (hs : SlS w a cap L) (C : KndW w) :
    Calls Tryz.prog 19 #[.agg (ndC n), .slice a L.length cap] w fun e w' => JoinE n L w e w' ∧ Below w.heap.size w w' := by
  have HC := Lib.hid C
  have HS := Lib.hid hs
  have HBd := Lib.hid hbd
  have HLs := Lib.hid hls
  obtain ⟨i0, hi0, hz0, hz1, hz2⟩ := info_parts infoIT
  unfold ndC
  clear C hs hbd hls
  go_enter Tryz.func19, Tryz.ntmps19
  go_wp2_with fail
  have HB0 : Hid (Below w.heap.size w ((w.alloc (.cells #[.int .i64 n.op, .int .i64 n.a, .int .i64 n.b, .int .i64 n.num, .int .i64 n.den] 57)).alloc (.cells #[.int .i64 n.op, .int .i64 n.a, .int .i64 n.b, .int .i64 n.num, .int .i64 n.den] 57))) := Lib.hid (onB (newB _ _) (newB _ _))
  have HO0 := Lib.hid (OwnN.one (w.alloc (.cells #[.int .i64 n.op, .int .i64 n.a, .int .i64 n.b, .int .i64 n.num, .int .i64 n.den] 57)) w.heap.size n (by simp))
  go_loopw [6, 7, 18] (fun vt vp vk wx => ∃ k : Nat, k ≤ L.length ∧ vk = .int .i64 k ∧ (jnN n L k).length ≤ 64 ∧ OwnN wx w.heap.size vt (jnN n L k) ∧ YtjafbfepdmgjnaaGreatDoor.Own wx w.heap.size vp (pcN L k) ∧ Apart vt vp ∧ Below w.heap.size w wx) (fun _ _ vk _ => L.length - (RowKit.intOf vk).toNat)
  case atStart => 
    refine ⟨0, Nat.zero_le _, rfl, by simp [jnN], by rw [jnN_zero]; simpa using HO0.out, YtjafbfepdmgjnaaGreatDoor.Own.nil _ _, fun k _ h => ?_, HB0.out⟩
    cases h
  case round =>
    obtain ⟨k, hk, rfl, h64, hot, hop, hap, hb⟩ := hrel
    obtain ⟨av, cv, rfl⟩ := hot.slice
    have HB := Lib.hid hb
    have HT := Lib.hid hot
    have HP := Lib.hid hop
    have HA := Lib.hid hap
    have hpl := pcN_len L k
    have hml := jnN_len n L k
    by_cases hlt : k < L.length
    · have HQ := HLs.out k hlt
      have HJ := Lib.hid (jnN_succ n L k hlt)
      have HPc : Hid (pcN L (k + 1) = pcN L k ++ [((jnN n L k).length : Int)]) := Lib.hid (by rw [hml]; rfl)
      have HGr := Lib.hid (fun hg => jnK_great (n := n) (L := L) (k := k + 1) hlt hg)
      obtain ⟨b, o, rfl, hc1, hc2, hcs⟩ := HS.out (by omega)
      obtain ⟨vj, hvj, hsj⟩ := hcs k hlt
      obtain ⟨aj, cj, rfl⟩ := hsj.slice
      have hcell := keepT hb hvj
      have HSj : Hid (∀ w', Below w.heap.size w w' → SlT w' (.slice aj (L.getD k []).length cj) (L.getD k [])) := Lib.hid (fun w' hb' => hsj.keep hb')
      rw [HJ.out, List.length_append] at HGr
      clear hcs hvj hsj hot hop hap hb HS HLs HO0 HB0 hml
      generalize L.getD k [] = u at *
      generalize jnN n L k = t at *
      generalize pcN L k = l at *
      have j0 : (0 : Int) ≤ (k : Int) := by omega
      have j1 : (k : Int) < (L.length : Int) := by omega
      have j2 : (L.length : Int) ≤ (cap : Int) := by omega
      by_cases hg : 64 < t.length + u.length
      · have hg' : (64 : Int) < (t.length : Int) + (u.length : Int) := by omega
        have HG := Lib.hid (HGr.out hg)
        clear hg
        go_wp2_with fail
        go_ret2
        exact ⟨join_fail HG.out (by decide) rfl, HB.out⟩
      · have hg' : ¬ (64 : Int) < (t.length : Int) + (u.length : Int) := by omega
        have hsz := HB.out.size
        have hown := HP.out
        have h63 : l.length + 1 ≤ maxLen := by unfold maxLen; omega
        have hby : (l.length + 1) * 8 ≤ 140737488355328 := by omega
        go_wp2_with (first
          | (at_builtin; refine wpList_append_own_at _ rfl (.tmp 28) (.tmp 31) 93 rfl w.heap.size 3 i0 (.int .i64 0) 1 8 Tryz.underlying93 hi0 hz0 hz1 hz2 rfl (by decide) _ _ _ rfl (hown.alloc _) ⟨wr.heap.size, 0, none⟩ 1 1 [.int .i64 (t.length : Int)] rfl rfl (cell_one_new _ _ _) (one_one _) h63 hby (by simp; omega) ?_; intro vp' w2 hown' hgrow _ hat; have HP2 := Lib.hid (own_snoc hown'); have HB2 := Lib.hid (below_append HB.out hown (Nat.le_refl _) hsz hgrow); have HA2 := Lib.hid (hap_next HA.out (HT.out.grown (newB wr (.cells #[.int .i64 (t.length : Int)] 3))) hat); have HT2 := Lib.hid ((HT.out.grown (newB wr (.cells #[.int .i64 (t.length : Int)] 3))).kept hgrow HA.out.ne); have hbase := HB2.out.size; clear hown hown' hgrow hat hsz)
          | (at_builtin; refine wpList_append_nodes rfl (.tmp 33) (.tmp 34) rfl w.heap.size _ t rfl HT2.out _ u rfl (HSj.out _ HB2.out) (by omega) hbase ?_; intro vt' w3 hot' hgrow' hat'; have HB3 := Lib.hid (below_nodes HB2.out HT2.out (Nat.le_refl _) hbase hgrow'); have HP3 := Lib.hid (Own.kept HP2.out hgrow' HA2.out.symm.ne); have HA3 := Lib.hid ((HA2.out.symm.next (w := w2) (fun k' hk' => Own.lt HP2.out k' hk') hat').symm); have HT3 := Lib.hid hot'; clear hot' hgrow' hat' hbase))
        go_roundw
        case rel => exact ⟨k + 1, by omega, by go_num, by rw [HJ.out, List.length_append]; omega, by rw [HJ.out]; exact HT3.out, by rw [HPc.out]; exact HP3.out, HA3.out, HB3.out⟩
        case measure => simp [RowKit.intOf]; omega
    · obtain rfl : k = L.length := by omega
      have hte := jnN_all n L
      have HR : Hid (jnK n L = if (ofK (n :: L.flatten)).2 ≠ 0 then (ofK (n :: L.flatten)).2 else if pcN L L.length = plL (n :: L.flatten) 0 (cnO (opA (n :: L.flatten) 0)) then 0 else 14) := Lib.hid rfl
      rw [← hte] at HR HBd
      clear HS HLs HO0 HB0 hot hop hap hb hml
      generalize jnN n L L.length = t at *
      generalize pcN L L.length = l at *
      have HTe := Lib.hid hte
      clear hte
      have hsl := HT.out.sl
      have HO := Lib.hid (tof_any t (by omega) HBd.out _ wr hsl (HC.out.keep HB.out))
      rcases hsl with ⟨h, _⟩ | ⟨h0, b, o, cap', e, h2, h3, hN⟩
      · exact absurd (h.symm.trans HTe.out) (by simp)
      · injection e with e1 e2 e3
        subst e1 e3
        have HN := Lib.hid hN
        have j1 : ¬ ((L.length : Nat) : Int) < ((L.length : Nat) : Int) := by omega
        clear hN
        by_cases he : (ofK t).2 = 0
        · have hw := (ofK_zero he).2.1.tm.1
          have HBl := Lib.hid (fun w' hN C => below_ok t (by omega) b o cv 0 h2 h3 hw w' hN C)
          have HR2 : Hid (jnK n L = if l = plL t 0 (cnO (opA t 0)) then 0 else 14) := Lib.hid (by rw [HR.out, if_neg (by simp [he])])
          have hpc : (plL t 0 (cnO (opA t 0))).length ≤ 4 := by rw [plL_len]; exact cn_le _
          rw [he] at HO
          clear HR hw he
          generalize (ofK t).1 = s0 at *
          generalize plL t 0 (cnO (opA t 0)) = pl at *
          go_wp2_with fail
          refine HO.out.mono ?_
          rintro e w4 ⟨rfl, hb4⟩
          have HB4 := Lib.hid (onB HB.out hb4)
          have HP4 := Lib.hid (HP.out.grown hb4)
          have HT4 := Lib.hid (HT.out.grown hb4)
          have HBl4 := Lib.hid (HBl.out w4 (HN.out.keep hb4) (HC.out.keep HB4.out))
          clear hb4
          go_wp2_with fail
          refine HBl4.out.mono ?_
          rintro e w5 ⟨vu, rfl, hou, hb5⟩
          have HB5 := Lib.hid (onB HB4.out hb5)
          have HT5 := Lib.hid (HT4.out.grown hb5)
          have HEq := Lib.hid (equal_own (HP4.out.grown hb5) hou (by omega) (by omega))
          clear hb5 hou
          go_wp2_with fail
          refine HEq.out.mono ?_
          rintro e w6 ⟨rfl, hb6⟩
          have HB6 := Lib.hid (onB HB5.out hb6)
          have HT6 := Lib.hid (HT5.out.grown hb6)
          clear hb6
          by_cases hq : l = pl
          · have HZ : Hid (jnK n L = 0) := Lib.hid (by rw [HR2.out, if_pos hq])
            rw [decide_eq_true hq]
            clear hq
            go_wp2_with fail
            go_ret2
            exact ⟨⟨fun h => absurd HZ.out h, fun _ => ⟨_, rfl, by rw [← HTe.out]; exact HT6.out⟩⟩, HB6.out⟩
          · have HZ : Hid (jnK n L = 14) := Lib.hid (by rw [HR2.out, if_neg hq])
            rw [decide_eq_false hq]
            clear hq
            go_wp2_with fail
            go_ret2
            exact ⟨join_fail HZ.out (by decide) rfl, HB6.out⟩
        · have HR2 : Hid (jnK n L = (ofK t).2) := Lib.hid (by rw [HR.out, if_pos he])
          have HE := Lib.hid he
          have heb : (((ofK t).2 : Int) == 0) = false := beq_false_of_ne (by omega)
          clear HR he
          generalize (ofK t).1 = s0 at *
          generalize (ofK t).2 = e0 at *
          go_wp2_with fail
          refine HO.out.mono ?_
          rintro e w4 ⟨rfl, hb4⟩
          have HB4 := Lib.hid (onB HB.out hb4)
          clear hb4
          go_wp2_with fail
          go_ret2
          exact ⟨join_fail HR2.out HE.out rfl, HB4.out⟩

end Go.Proofs.YtjafbfepdmgjnaaGreatDoor

namespace Go.Proofs.YtjafbfepdmgjnaaGreatDoor
open Go.RowKit Go.Lib
set_option linter.unusedVariables false
set_option linter.unusedSimpArgs false

theorem fitJ_pc (L : List (List Nd)) : ∀ k j, j < k → (pcN L k).getD j 0 = ((1 + (L.take j).flatten.length : Nat) : Int)
  | 0, j, h => absurd h (Nat.not_lt_zero _)
  | k + 1, j, h => by
    rw [pcN, List.getD_eq_getElem?_getD]
    by_cases e : j = k
    · subst e
      rw [List.getElem?_append_right (by rw [pcN_len]; exact Nat.le_refl _), pcN_len, Nat.sub_self]; rfl
    · rw [List.getElem?_append_left (by rw [pcN_len]; omega), ← List.getD_eq_getElem?_getD]
      exact fitJ_pc L k j (by omega)
/-- Where the places are those of the parts, the terms below are the parts. -/
theorem join_parts {n : Nd} {L : List (List Nd)} (hw : WholeT (n :: L.flatten)) (h : pcN L L.length = plL (n :: L.flatten) 0 (cnO n.op)) :
    cnO n.op = L.length ∧ ∀ i, i < L.length → TmA (n :: L.flatten) (plA (n :: L.flatten) 1 i) ∧ szA (n :: L.flatten) (plA (n :: L.flatten) 1 i) = (L.getD i []).length := by
  have hlen : cnO n.op = L.length := by
    have := congrArg List.length h
    rw [pcN_len, plL_len] at this
    exact this.symm
  obtain ⟨ht, hsz⟩ := hw.tm
  obtain ⟨_, hk, hend⟩ := ht.parts
  rw [show opA (n :: L.flatten) 0 = n.op from rfl] at hk hend
  simp only [Nat.zero_add] at hk hend
  have key : ∀ i, i ≤ L.length → plA (n :: L.flatten) 1 i = (jnN n L i).length := by
    intro i hi
    by_cases e : i = L.length
    · subst e
      rw [← hlen, hend, hsz, hlen, jnN_all]
    · have e1 := fitJ_pc L L.length i (by omega)
      rw [h, plL] at e1
      have e2 : (uptoT (fun i => ((plA (n :: L.flatten) (0 + 1) i : Nat) : Int)) (cnO n.op)).getD i 0 = ((plA (n :: L.flatten) (0 + 1) i : Nat) : Int) := by
        unfold uptoT
        rw [List.getD_eq_getElem?_getD, List.getElem?_map, List.getElem?_range (by omega)]; rfl
      rw [e2, Nat.zero_add] at e1
      rw [jnN_len]
      exact Int.ofNat.inj e1
  refine ⟨hlen, fun i hi => ⟨hk i (by omega), ?_⟩⟩
  have h1 := key i (by omega)
  have h2 := key (i + 1) (by omega)
  rw [plA, h1, jnN_succ n L i hi, List.length_append] at h2
  rw [h1]
  omega

end Go.Proofs.YtjafbfepdmgjnaaGreatDoor
