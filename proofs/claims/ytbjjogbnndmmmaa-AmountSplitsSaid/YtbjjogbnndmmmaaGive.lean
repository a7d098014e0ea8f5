/-
  amount.giveAway: one more to each of as many parts as are left, in the order of what was cut off.
-/
import Derived.Test.YtbjjogbnndmmmaaStableN
import Derived.Test.YtbjjogbnndmmmaaCmp
import Derived.Test.YtbjjogbnndmmmaaCells
import Derived.Deep.OwnRows
import Derived.Below
import Derived.WalkMore
import Derived.Deep.LoopGhost
namespace Go.Proofs.Ytbjjogbnndmmmaa
open Go.RowKit Go.Sort
set_option linter.unusedVariables false

theorem rowW_set (w : World) (blk off n : Nat) (d : Array Int) (i : Nat) (x : Int) (hi : i < d.size) :
    (rowW w blk off n d).setCell ⟨blk, off + i, none⟩ (.int .i64 x) = rowW w blk off n (d.setIfInBounds i x) := putRow_set (Value.int .i64) _ blk off d i x hi
theorem rowW_other (w : World) (blk off n : Nat) (d : Array Int) (a : Addr) (h : a.block ≠ blk) : (rowW w blk off n d).cell? a = w.cell? a := by
  unfold rowW; rw [cell?_putRow_other _ _ _ _ _ _ (Or.inl h)]; rfl
theorem rowW_frozenA (w : World) (blk off n : Nat) (d : Array Int) (a : Addr) : (rowW w blk off n d).frozen? a = w.frozen? a := by
  unfold rowW; rw [frozen?_putRow]; rfl
theorem rowW_size (w : World) (blk off n : Nat) (d : Array Int) : (rowW w blk off n d).heap.size = w.heap.size := by
  unfold rowW; rw [size_putRow]; rfl
theorem rowW_below (w : World) (blk off n B : Nat) (d : Array Int) (h : B ≤ blk) : Below B w (rowW w blk off n d) := by
  refine ⟨rfl, rfl, rfl, by rw [rowW_size]; exact Nat.le_refl _, fun k hk => ?_⟩
  show (w.heap.modify blk _)[k]? = _
  rw [Array.getElem?_modify, if_neg (by omega)]

/-- The row of places, filled so far. -/
def fillI (n : Nat) : Nat → Array Int
  | 0 => (List.replicate n (0 : Int)).toArray
  | k + 1 => (fillI n k).setIfInBounds k (k : Int)
theorem fillI_size (n : Nat) : ∀ k, (fillI n k).size = n
  | 0 => by simp [fillI]
  | k + 1 => by simp [fillI, fillI_size n k]
theorem fillI_at (n : Nat) : ∀ k t, t < k → t < n → (fillI n k)[t]! = (t : Int)
  | 0, t, h, _ => by omega
  | k + 1, t, h, hn => by
    have hs := fillI_size n k
    rw [fillI]
    by_cases e : t = k
    · subst e; exact getElem!_set_same _ _ _ (by omega)
    · rw [getElem!_set_other _ _ _ _ e]; exact fillI_at n k t (by omega) hn

theorem made_holds (w : World) (n : Nat) (e : TypeId) : Holds (Value.int .i64) (w.alloc (.cells (madeCells #[.int .i64 0] n) e)) w.heap.size 0 (fillI n 0) := by
  intro j hj
  rw [fillI_size] at hj
  refine ⟨?_, ?_⟩
  · rw [World.cell?_alloc_at _ _ _ _ rfl]
    simp [madeCells, fillI, hj, Nat.mod_one]
  · exact World.frozen?_alloc_at _ _ _ _ rfl

/-- Parts, with one more for each of the first places of an order. -/
def addK (P : Nat → Int) (d : Array Int) : Nat → Nat → Int
  | 0 => P
  | k + 1 => fun t => addK P d k t + if (t : Int) = d[k]! then 1 else 0

theorem addK_new (P : Nat → Int) (d : Array Int) (t : Nat) : ∀ k, (∀ j, j < k → d[j]! ≠ (t : Int)) → addK P d k t = P t
  | 0, _ => rfl
  | k + 1, h => by
    show addK P d k t + (if (t : Int) = d[k]! then 1 else 0) = P t
    rw [addK_new P d t k (fun j hj => h j (by omega)), if_neg (fun e => h k (by omega) e.symm)]; omega

theorem Srt.ne {κ : Int → Int} {a b : Nat} {d : Array Int} (h : Srt κ a b d) {i j : Nat} (h1 : a ≤ i) (h2 : i < j) (h3 : j < b) : d[i]! ≠ d[j]! := fun e => by
  have := h i j h1 h2 h3; rw [e] at this; unfold pr at this; omega

/-- Where the giving stands. -/
structure GiveInv (P : Nat → Int) (d : Array Int) (w : World) (n pb ob k : Nat) (wx : World) : Prop where
  below : Below pb w wx
  ord : ∀ t, t < n → wx.cell? ⟨ob, 0 + t, none⟩ = some (.int .i64 d[t]!)
  par : ∀ t, t < n → wx.cell? ⟨pb, 0 + t, none⟩ = some (.int .i64 (addK P d k t))
  frz : ∀ t, t < n → wx.frozen? ⟨pb, 0 + t, none⟩ = false

theorem GiveInv.step {P : Nat → Int} {d : Array Int} {w wx : World} {n pb k j : Nat} (h : GiveInv P d w n pb (w.heap.size + 1) k wx) (hj : d[k]! = (j : Int)) (hjn : j < n) (hpb : pb < w.heap.size) (hnew : addK P d k j = P j) :
    GiveInv P d w n pb (w.heap.size + 1) (k + 1) (wx.setCell ⟨pb, j, none⟩ (.int .i64 (P j + 1))) := by
  refine ⟨h.below.setCell (Nat.le_refl _) _, fun t ht => ?_, fun t ht => ?_, fun t ht => ?_⟩
  · rw [cell_other (by intro e; have := congrArg Addr.block e; simp at this; omega)]; exact h.ord t ht
  · show _ = some (Value.int .i64 (addK P d k t + if (t : Int) = d[k]! then 1 else 0))
    by_cases e : t = j
    · subst e
      rw [Nat.zero_add, cell_same (u := .int .i64 (P t)) (by have := h.par t ht; rw [Nat.zero_add, hnew] at this; exact this), hj, if_pos rfl, hnew]
    · rw [cell_other (by intro e'; have := congrArg Addr.off e'; simp at this; omega), h.par t ht, hj, if_neg (by omega), Int.add_zero]
  · rw [World.frozen?_setCell]; exact h.frz t ht

set_option maxHeartbeats 4000000 in
set_option maxRecDepth 100000 in
theorem give_walk (P : Nat → Int) (K : Nat → Int) (left : Int) (n pb cb : Nat) (w : World) (hpb : pb < w.heap.size) (hcb : cb < w.heap.size) (hpc : pb ≠ cb) (hn : n ≤ 64)
    (hP : ∀ t, t < n → w.cell? ⟨pb, 0 + t, none⟩ = some (.int .i64 (P t))) (hPf : ∀ t, t < n → w.frozen? ⟨pb, 0 + t, none⟩ = false) (hK : ∀ t, t < n → w.cell? ⟨cb, 0 + t, none⟩ = some (.int .u64 (K t)))
    (hl0 : 0 ≤ left) (hl1 : left ≤ n) (hbd : 0 < left → ∀ t, t < n → -9223372036854775808 ≤ P t ∧ P t ≤ 9223372036854775806) :
    Calls Try.prog 26 #[.int .u64 left, .slice (some ⟨pb, 0, none⟩) n n, .slice (some ⟨cb, 0, none⟩) n n] w fun e w' =>
      e = .returned (.tuple #[]) ∧ ∃ d : Array Int, d.size = n ∧ Seg (fun x => K x.toNat) 0 n d ∧ Below pb w w' ∧ (∀ t, t < n → w'.cell? ⟨pb, 0 + t, none⟩ = some (.int .i64 (addK P d left.toNat t))) ∧ ∀ t, t < n → w'.frozen? ⟨pb, 0 + t, none⟩ = false := by
  have HP : Hid _ := hP
  have HPf : Hid _ := hPf
  have HK : Hid _ := hK
  have HBd : Hid _ := hbd
  have hmk := fun (w : World) => run_make_row' (P := Try.prog) 22 3 (.int .i64 0) 8 Try.underlying22 Try.infoI rfl .i64 .i64 n (by omega) (by omega) w
  have hmf : ∀ (fn : Fn) (first cap : Array Value) (w : World), (Instr.makeFunc fn first cap).run Try.prog w = .ok (.func fn first cap) w := fun _ _ _ _ => rfl
  clear hP hPf hK hbd
  go_enter Try.func26, Try.ntmps26
  go_wp2
  go_step3
  go_wp2
  go_loopw [7, 15] (fun vv vi wr => ∃ k : Nat, k ≤ n ∧ vi = .int .i64 k ∧ wr = rowW ((w.alloc (.cells #[.slice (some ⟨cb, 0, none⟩) n n] 54)).alloc (.cells (madeCells #[.int .i64 0] n) 3)) (w.heap.size + 1) 0 0 (fillI n k)) (fun _ vi _ => n - (intOf vi).toNat)
  case atStart => exact ⟨0, Nat.zero_le _, rfl, rowW_start (by have := made_holds (w.alloc (.cells #[.slice (some ⟨cb, 0, none⟩) n n] 54)) n 3; simpa using this)⟩
  case round =>
    obtain ⟨k, hk, rfl, hwr⟩ := hrel
    have hsk := fillI_size n k
    have HH : Hid (Holds (Value.int .i64) ((w.alloc (.cells #[.slice (some ⟨cb, 0, none⟩) n n] 54)).alloc (.cells (madeCells #[.int .i64 0] n) 3)) (w.heap.size + 1) 0 (fillI n 0)) :=
      Lib.hid (by have := made_holds (w.alloc (.cells #[.slice (some ⟨cb, 0, none⟩) n n] 54)) n 3; simpa using this)
    by_cases hlt : k < n
    · have hcw : wr.cell? ⟨w.heap.size + 1, k, none⟩ = some (.int .i64 (fillI n k)[k]!) := by
        have := rowW_cell (n := 0) (d' := fillI n k) HH.out (by rw [fillI_size, fillI_size]) k (by rw [fillI_size]; exact hlt)
        rw [Nat.zero_add] at this; rw [hwr]; exact this
      have hfw : wr.frozen? ⟨w.heap.size + 1, k, none⟩ = false := by
        have := rowW_frozen (n := 0) (d' := fillI n k) HH.out k (by rw [fillI_size]; exact hlt)
        rw [Nat.zero_add] at this; rw [hwr]; exact this
      have HW := Lib.hid hwr
      clear hwr
      go_wp2
      go_roundw
      case rel =>
        refine ⟨k + 1, by omega, by go_num, ?_⟩
        have := rowW_set ((w.alloc (.cells #[.slice (some ⟨cb, 0, none⟩) n n] 54)).alloc (.cells (madeCells #[.int .i64 0] n) 3)) (w.heap.size + 1) 0 0 (fillI n k) k (k : Int) (by omega)
        rw [Nat.zero_add] at this
        rw [HW.out]
        exact this
      case measure => simp [intOf]; omega
    · obtain rfl : n = k := by omega
      have hs3 : wr.heap.size = w.heap.size + 2 := by rw [hwr, rowW_size]; simp
      have hold : ∀ a : Addr, a.block < w.heap.size → wr.cell? a = w.cell? a := fun a ha => by
        rw [hwr, rowW_other _ _ _ _ _ _ (by omega)]
        exact (Below.alloc (Below.alloc (Below.refl w.heap.size w) (Nat.le_refl _) _) (by simp) _).cell ha
      have holdf : ∀ a : Addr, a.block < w.heap.size → wr.frozen? a = w.frozen? a := fun a ha => by
        rw [hwr, rowW_frozenA]
        exact (Below.alloc (Below.alloc (Below.refl w.heap.size w) (Nat.le_refl _) _) (by simp) _).frozen ha
      have hbox : wr.cell? ⟨w.heap.size, 0, none⟩ = some (.slice (some ⟨cb, 0, none⟩) n n) := by
        rw [hwr, rowW_other _ _ _ _ _ _ (by show w.heap.size ≠ w.heap.size + 1; omega)]; simp
      have hB3 : Below pb w wr := by
        rw [hwr]
        exact (Below.alloc (Below.alloc (Below.refl pb w) (by omega) _) (by simp; omega) _).trans (rowW_below _ _ _ _ _ _ (by omega))
      have hRow : Holds (Value.int .i64) wr (w.heap.size + 1) 0 (fillI n n) := by rw [hwr]; exact rowW_holds HH.out (by rw [fillI_size, fillI_size])
      have hPc : ∀ t, t < n → wr.cell? ⟨pb, 0 + t, none⟩ = some (.int .i64 (P t)) := fun t ht => by rw [hold _ hpb]; exact HP.out t ht
      have hPfc : ∀ t, t < n → wr.frozen? ⟨pb, 0 + t, none⟩ = false := fun t ht => by rw [holdf _ hpb]; exact HPf.out t ht
      have hKc : ∀ t, t < n → wr.cell? ⟨cb, 0 + t, none⟩ = some (.int .u64 (K t)) := fun t ht => by rw [hold _ hcb]; exact HK.out t ht
      have hC : CmpR #[.pointer (some ⟨w.heap.size, 0, none⟩)] (fun x y => cmpU (K y.toNat) (K x.toNat)) (fun x => 0 ≤ x ∧ x < (n : Int)) (w.heap.size + 1) 0 n wr := by
        intro m dk hdk x y hx hy
        obtain ⟨X, rfl⟩ := Int.eq_ofNat_of_zero_le hx.1
        obtain ⟨Y, rfl⟩ := Int.eq_ofNat_of_zero_le hy.1
        have hX : X < n := by have := hx.2; omega
        have hY : Y < n := by have := hy.2; omega
        exact order_any K X Y n w.heap.size cb 0 n (rowW wr (w.heap.size + 1) 0 m dk) (by rw [rowW_other _ _ _ _ _ _ (by show w.heap.size ≠ w.heap.size + 1; omega)]; exact hbox) hX hY (by omega)
          (fun t ht => by rw [rowW_other _ _ _ _ _ _ (by show cb ≠ w.heap.size + 1; omega)]; exact hKc t ht)
      have HSort := Lib.hid (sort_any #[.pointer (some ⟨w.heap.size, 0, none⟩)] _ (fun x => K x.toNat) _ (w.heap.size + 1) 0 n n (fillI n n) wr hRow (fun x y => cmpU_neg _ _) (fillI_size n n) hC
        (fun t ht => by rw [fillI_at n n t ht ht]; omega) (fun t ht => fillI_at n n t ht ht) hn)
      have HPc : Hid _ := hPc
      have HPfc : Hid _ := hPfc
      have HRow : Hid _ := hRow
      have HB3 := Lib.hid hB3
      have HS3 := Lib.hid hs3
      clear hwr hold holdf hbox hB3 hRow hPc hPfc hKc hC hs3 HH HP HPf HK hmk
      go_wp2_with (go_at_call 34; refine HSort.out.mono ?_; rintro e w' ⟨rfl, q, d, rfl, hWay, hSeg⟩)
      have HWay : Hid _ := hWay
      have HSeg := Lib.hid hSeg
      have HOrd : Hid (∀ t, t < n → (rowW wr (w.heap.size + 1) 0 q d).cell? ⟨w.heap.size + 1, 0 + t, none⟩ = some (.int .i64 d[t]!)) :=
        Lib.hid (fun t ht => rowW_cell HRow.out (by rw [fillI_size]; exact hWay.1) t (by rw [fillI_size]; exact ht))
      have HPd : Hid (∀ t, t < n → (rowW wr (w.heap.size + 1) 0 q d).cell? ⟨pb, 0 + t, none⟩ = some (.int .i64 (P t))) :=
        Lib.hid (fun t ht => by rw [rowW_other _ _ _ _ _ _ (by show pb ≠ w.heap.size + 1; omega)]; exact HPc.out t ht)
      have HPfd : Hid (∀ t, t < n → (rowW wr (w.heap.size + 1) 0 q d).frozen? ⟨pb, 0 + t, none⟩ = false) :=
        Lib.hid (fun t ht => by rw [rowW_frozenA]; exact HPfc.out t ht)
      have HB4 : Hid (Below pb w (rowW wr (w.heap.size + 1) 0 q d)) := Lib.hid (HB3.out.trans (rowW_below _ _ _ _ _ _ (by omega)))
      clear hWay hSeg HRow HPc HPfc HB3 HSort
      generalize rowW wr (w.heap.size + 1) 0 q d = w4 at *
      go_step3
      go_wp2
      go_loopw [0, 9, 28] (fun vl vv vi wx => ∃ k : Nat, k ≤ n ∧ vi = .int .i64 k ∧ (k : Int) ≤ left ∧ vl = .int .u64 (left - k) ∧ GiveInv P d w n pb (w.heap.size + 1) k wx) (fun _ _ vi _ => n - (intOf vi).toNat)
      case atStart => exact ⟨0, Nat.zero_le _, rfl, hl0, num_eqI (by omega), ⟨HB4.out, HOrd.out, HPd.out, HPfd.out⟩⟩
      case round =>
        clear HB4 HOrd HPd HPfd
        obtain ⟨k, hk, rfl, hkl, rfl, hinv⟩ := hrel
        by_cases hlt : k < n
        · obtain ⟨j, hj⟩ : ∃ j : Nat, d[k]! = (j : Int) := ⟨d[k]!.toNat, by have := (HSeg.out.2 k (Nat.zero_le _) hlt).1; omega⟩
          have hjn : j < n := by have := (HSeg.out.2 k (Nat.zero_le _) hlt).2; omega
          have hck : wr.cell? ⟨w.heap.size + 1, k, none⟩ = some (.int .i64 (j : Int)) := by
            have := hinv.ord k hlt; rw [Nat.zero_add, hj] at this; exact this
          by_cases hz : left = k
          · have hzb : (left - (k : Int) == 0) = true := by simp; omega
            have HZ := Lib.hid hz
            have HInv := Lib.hid hinv
            have HJ := Lib.hid hj
            clear hz hinv hj
            go_wp2
            rw [Exit.noGoto_normal]
            go_end0
            refine ⟨rfl, d, HWay.out.1, HSeg.out, HInv.out.below, ?_, HInv.out.frz⟩
            rw [show left.toNat = k from by have := HZ.out; omega]
            exact HInv.out.par
          · have hzb : (left - (k : Int) == 0) = false := by simp; omega
            have hnew : addK P d k j = P j := addK_new P d j k (fun i hi e => HSeg.out.1.ne (Nat.zero_le _) hi hlt (by rw [e, hj]))
            have hpj : wr.cell? ⟨pb, j, none⟩ = some (.int .i64 (P j)) := by
              have := hinv.par j hjn; rw [Nat.zero_add, hnew] at this; exact this
            have hfj : wr.frozen? ⟨pb, j, none⟩ = false := by
              have := hinv.frz j hjn; rw [Nat.zero_add] at this; exact this
            have hbj := HBd.out (by omega) j hjn
            have hlk : (k : Int) < left := by omega
            have HInv := Lib.hid hinv
            have HJ := Lib.hid hj
            have HNew := Lib.hid hnew
            clear hz hinv hj hnew
            go_wp2
            go_roundw
            case rel => exact ⟨k + 1, by omega, by go_num, by omega, num_eqI (by omega), GiveInv.step HInv.out HJ.out hjn hpb HNew.out⟩
            case measure => simp [intOf]; omega
        · obtain rfl : n = k := by omega
          have HInv := Lib.hid hinv
          clear hinv
          go_wp2
          rw [Exit.noGoto_normal]
          go_end0
          refine ⟨rfl, d, HWay.out.1, HSeg.out, HInv.out.below, ?_, HInv.out.frz⟩
          rw [show left.toNat = n from by omega]
          exact HInv.out.par

end Go.Proofs.Ytbjjogbnndmmmaa
