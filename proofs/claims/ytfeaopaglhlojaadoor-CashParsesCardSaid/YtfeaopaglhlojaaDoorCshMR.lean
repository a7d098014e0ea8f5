/-
  chattelref03: Name, Digits: what they answer.
-/
import Derived.Test.YtfeaopaglhlojaaDoorCsh
import Derived.Test.YtfeaopaglhlojaaDoorRefF
import Derived.Test.YtfeaopaglhlojaaDoorHeldV
import Derived.Deep.RegionHeld3
import Derived.Deep.RegionWith
import Derived.Test.YtfeaopaglhlojaaDoorRefG
import Derived.Deep.QuietTactic
import Derived.BigQuiet
import Derived.Deep.DeepCutAuto
import Derived.Deep.CutRange
namespace Go.Proofs.YtfeaopaglhlojaaDoor
open Go.RowKit Go.Lib
set_option linter.unusedVariables false

set_option maxHeartbeats 1000000 in
set_option maxRecDepth 100000 in
theorem rname_no (c : Int) (h : c < 0 ∨ 7 < c) (w : World) : Calls Tryd.prog 38 #[.int .i64 c] w fun e w' => e = .returned (.string ⟨#[]⟩) ∧ Below w.heap.size w w' := by
  rcases h with h | h
  · go_enter Tryd.func38, Tryd.ntmps38
    go_wp2_with fail
    go_ret
    exact ⟨rfl, below_one w _⟩
  · have h0 : ¬ c < 0 := by omega
    go_enter Tryd.func38, Tryd.ntmps38
    go_wp2_with fail
    go_ret
    exact ⟨rfl, below_one w _⟩

set_option maxRecDepth 100000 in
theorem rname_0 (w : World) : Calls Tryd.prog 38 #[.int .i64 0] w fun e w' => e = .returned (.string ⟨(curN 0).toArray⟩) ∧ Below w.heap.size w w' := by
  go_enter Tryd.func38, Tryd.ntmps38
  go_wp2_with fail
  go_ret
  exact ⟨rfl, below_one w _⟩
set_option maxRecDepth 100000 in
theorem rdigs_0 (w : World) : Calls Tryd.prog 37 #[.int .i64 0] w fun e w' => e = .returned (.int .i64 (curD 0)) ∧ Below w.heap.size w w' := by
  go_enter Tryd.func37, Tryd.ntmps37
  go_wp2_with fail
  go_ret
  exact ⟨rfl, below_one w _⟩
set_option maxRecDepth 100000 in
theorem rname_1 (w : World) : Calls Tryd.prog 38 #[.int .i64 1] w fun e w' => e = .returned (.string ⟨(curN 1).toArray⟩) ∧ Below w.heap.size w w' := by
  go_enter Tryd.func38, Tryd.ntmps38
  go_wp2_with fail
  go_ret
  exact ⟨rfl, below_one w _⟩
set_option maxRecDepth 100000 in
theorem rdigs_1 (w : World) : Calls Tryd.prog 37 #[.int .i64 1] w fun e w' => e = .returned (.int .i64 (curD 1)) ∧ Below w.heap.size w w' := by
  go_enter Tryd.func37, Tryd.ntmps37
  go_wp2_with fail
  go_ret
  exact ⟨rfl, below_one w _⟩
set_option maxRecDepth 100000 in
theorem rname_2 (w : World) : Calls Tryd.prog 38 #[.int .i64 2] w fun e w' => e = .returned (.string ⟨(curN 2).toArray⟩) ∧ Below w.heap.size w w' := by
  go_enter Tryd.func38, Tryd.ntmps38
  go_wp2_with fail
  go_ret
  exact ⟨rfl, below_one w _⟩
set_option maxRecDepth 100000 in
theorem rdigs_2 (w : World) : Calls Tryd.prog 37 #[.int .i64 2] w fun e w' => e = .returned (.int .i64 (curD 2)) ∧ Below w.heap.size w w' := by
  go_enter Tryd.func37, Tryd.ntmps37
  go_wp2_with fail
  go_ret
  exact ⟨rfl, below_one w _⟩
set_option maxRecDepth 100000 in
theorem rname_3 (w : World) : Calls Tryd.prog 38 #[.int .i64 3] w fun e w' => e = .returned (.string ⟨(curN 3).toArray⟩) ∧ Below w.heap.size w w' := by
  go_enter Tryd.func38, Tryd.ntmps38
  go_wp2_with fail
  go_ret
  exact ⟨rfl, below_one w _⟩
set_option maxRecDepth 100000 in
theorem rdigs_3 (w : World) : Calls Tryd.prog 37 #[.int .i64 3] w fun e w' => e = .returned (.int .i64 (curD 3)) ∧ Below w.heap.size w w' := by
  go_enter Tryd.func37, Tryd.ntmps37
  go_wp2_with fail
  go_ret
  exact ⟨rfl, below_one w _⟩
set_option maxRecDepth 100000 in
theorem rname_4 (w : World) : Calls Tryd.prog 38 #[.int .i64 4] w fun e w' => e = .returned (.string ⟨(curN 4).toArray⟩) ∧ Below w.heap.size w w' := by
  go_enter Tryd.func38, Tryd.ntmps38
  go_wp2_with fail
  go_ret
  exact ⟨rfl, below_one w _⟩
set_option maxRecDepth 100000 in
theorem rdigs_4 (w : World) : Calls Tryd.prog 37 #[.int .i64 4] w fun e w' => e = .returned (.int .i64 (curD 4)) ∧ Below w.heap.size w w' := by
  go_enter Tryd.func37, Tryd.ntmps37
  go_wp2_with fail
  go_ret
  exact ⟨rfl, below_one w _⟩
set_option maxRecDepth 100000 in
theorem rname_5 (w : World) : Calls Tryd.prog 38 #[.int .i64 5] w fun e w' => e = .returned (.string ⟨(curN 5).toArray⟩) ∧ Below w.heap.size w w' := by
  go_enter Tryd.func38, Tryd.ntmps38
  go_wp2_with fail
  go_ret
  exact ⟨rfl, below_one w _⟩
set_option maxRecDepth 100000 in
theorem rdigs_5 (w : World) : Calls Tryd.prog 37 #[.int .i64 5] w fun e w' => e = .returned (.int .i64 (curD 5)) ∧ Below w.heap.size w w' := by
  go_enter Tryd.func37, Tryd.ntmps37
  go_wp2_with fail
  go_ret
  exact ⟨rfl, below_one w _⟩
set_option maxRecDepth 100000 in
theorem rname_6 (w : World) : Calls Tryd.prog 38 #[.int .i64 6] w fun e w' => e = .returned (.string ⟨(curN 6).toArray⟩) ∧ Below w.heap.size w w' := by
  go_enter Tryd.func38, Tryd.ntmps38
  go_wp2_with fail
  go_ret
  exact ⟨rfl, below_one w _⟩
set_option maxRecDepth 100000 in
theorem rdigs_6 (w : World) : Calls Tryd.prog 37 #[.int .i64 6] w fun e w' => e = .returned (.int .i64 (curD 6)) ∧ Below w.heap.size w w' := by
  go_enter Tryd.func37, Tryd.ntmps37
  go_wp2_with fail
  go_ret
  exact ⟨rfl, below_one w _⟩
set_option maxRecDepth 100000 in
theorem rname_7 (w : World) : Calls Tryd.prog 38 #[.int .i64 7] w fun e w' => e = .returned (.string ⟨(curN 7).toArray⟩) ∧ Below w.heap.size w w' := by
  go_enter Tryd.func38, Tryd.ntmps38
  go_wp2_with fail
  go_ret
  exact ⟨rfl, below_one w _⟩
set_option maxRecDepth 100000 in
theorem rdigs_7 (w : World) : Calls Tryd.prog 37 #[.int .i64 7] w fun e w' => e = .returned (.int .i64 (curD 7)) ∧ Below w.heap.size w w' := by
  go_enter Tryd.func37, Tryd.ntmps37
  go_wp2_with fail
  go_ret
  exact ⟨rfl, below_one w _⟩
theorem rname_any (k : Nat) (hk : k < 8) (w : World) : Calls Tryd.prog 38 #[.int .i64 k] w fun e w' => e = .returned (.string ⟨(curN k).toArray⟩) ∧ Below w.heap.size w w' := by
  match k, hk with
  | 0, _ => exact rname_0 w
  | 1, _ => exact rname_1 w
  | 2, _ => exact rname_2 w
  | 3, _ => exact rname_3 w
  | 4, _ => exact rname_4 w
  | 5, _ => exact rname_5 w
  | 6, _ => exact rname_6 w
  | 7, _ => exact rname_7 w
theorem rdigs_any (k : Nat) (hk : k < 8) (w : World) : Calls Tryd.prog 37 #[.int .i64 k] w fun e w' => e = .returned (.int .i64 (curD k)) ∧ Below w.heap.size w w' := by
  match k, hk with
  | 0, _ => exact rdigs_0 w
  | 1, _ => exact rdigs_1 w
  | 2, _ => exact rdigs_2 w
  | 3, _ => exact rdigs_3 w
  | 4, _ => exact rdigs_4 w
  | 5, _ => exact rdigs_5 w
  | 6, _ => exact rdigs_6 w
  | 7, _ => exact rdigs_7 w

/-- Of two currencies' names none is the other's. -/
theorem names_apart : ∀ i j : Fin 8, i ≠ j → curN i.val ≠ curN j.val := by decide
theorem findK_only {l : List UInt8} {i j : Nat} (hi : i < 8) (h : findK l i = some j) : (curN i == l) = false := by
  have hj := findK_lt h
  have hs := findK_sound h
  rw [← hs]
  exact beq_false_of_ne (names_apart ⟨i, hi⟩ ⟨j, by omega⟩ (fun e => by have := congrArg Fin.val e; simp at this; omega))
/-- The currency of a name so far; -1: there is none. -/
def wantK (l : List UInt8) (i : Nat) : Int := match findK l i with
  | none => -1
  | some j => j
theorem wantK_hit {l : List UInt8} {i : Nat} (hi : i < 8) (h : (curN i == l) = true) : wantK l (i + 1) = i := by
  have hn : findK l i = none := by
    cases e : findK l i with
    | none => rfl
    | some j => rw [findK_only hi e] at h; cases h
  unfold wantK
  rw [findK_hit hn h]
theorem wantK_miss {l : List UInt8} {i : Nat} (h : (curN i == l) = false) : wantK l (i + 1) = wantK l i := by
  unfold wantK
  cases e : findK l i with
  | none => rw [findK_miss e h]
  | some j => rw [findK_stay e (i + 1) (by omega)]

end Go.Proofs.YtfeaopaglhlojaaDoor

namespace Go.Proofs.YtfeaopaglhlojaaDoor
open Go.RowKit Go.Lib
set_option linter.unusedVariables false

def sgnV (b : Bool) (u : Nat) : Int := if b = true then -(u : Int) else u
instance (n : Int) : Decidable (I64 n) := by unfold I64; infer_instance
def valR (b : Bool) (F : List UInt8) : Int × Int := if I64 (sgnV b (digV 0 F)) then (sgnV b (digV 0 F), 0) else (0, 11)
/-- Are these the digits of an amount? -/
def OkF (b : Bool) (F : List UInt8) (d : Nat) : Prop := F ≠ [] ∧ (∀ x ∈ F, isDg x = true) ∧ ¬ (d + 1 < F.length ∧ F.head? = some 48) ∧ ¬ (b = true ∧ digV 0 F = 0)
instance (b : Bool) (F : List UInt8) (d : Nat) : Decidable (OkF b F d) := by unfold OkF; infer_instance
def finR (b : Bool) (F : List UInt8) (d : Nat) : Int × Int := if OkF b F d then valR b F else (0, 13)
def dotF (T : List UInt8) (d : Nat) : List UInt8 := T.take (T.length - d - 1) ++ T.drop (T.length - d)
def refR (b : Bool) (T : List UInt8) (d : Nat) : Int × Int :=
  if d = 0 then finR b T 0 else if d + 2 ≤ T.length ∧ T[T.length - d - 1]? = some 46 then finR b (dotF T d) d else (0, 13)

theorem readF_val {F : List UInt8} (hne : F ≠ []) (hd : ∀ x ∈ F, isDg x = true) (b : Bool) : readF b F = if b = true ∧ digV 0 F = 0 then (0, 13) else valR b F := by
  unfold readF valR
  cases b with
  | true =>
    rw [if_pos rfl]
    by_cases h0 : digV 0 F = 0
    · have ht : Lib.trimS F [48] = [] := by
        by_cases ht : Lib.trimS F [48] = []
        · exact ht
        · exact absurd h0 (trim_pos hd ht)
      rw [if_pos ht, if_pos (show true = true ∧ digV 0 F = 0 from ⟨rfl, h0⟩)]
    · have ht : ¬ Lib.trimS F [48] = [] := fun ht => h0 (trim_zero ht)
      rw [if_neg ht, if_neg (show ¬ (true = true ∧ digV 0 F = 0) from fun h => h0 h.2)]
      have es : sgnV true (digV 0 F) = -(digV 0 F : Int) := rfl
      rw [es]
      by_cases hf : I64 (-(digV 0 F : Int))
      · rw [if_pos hf, atoi_neg hne hd (by unfold I64 at hf; omega)]
      · rw [if_neg hf]
        cases e : atoiAll (45 :: F) with
        | ok v =>
          have := atoi_neg_val e
          have hb := atoiAll_bounds e
          rw [this] at hb
          exact absurd hb hf
        | _ => rfl
  | false =>
    rw [if_neg (by decide), if_neg (fun h => by cases h.1)]
    have es : sgnV false (digV 0 F) = (digV 0 F : Int) := rfl
    rw [es]
    by_cases hf : I64 (digV 0 F : Int)
    · rw [if_pos hf, atoi_pos hne hd (by unfold I64 at hf; omega)]
    · rw [if_neg hf]
      cases e : atoiAll F with
      | ok v =>
        have := atoi_pos_val hne hd e
        have hb := atoiAll_bounds e
        rw [this] at hb
        exact absurd hb hf
      | _ => rfl
theorem cnt_iff (W : List UInt8) : cntB W = true ↔ W ≠ [] ∧ (∀ x ∈ W, isDg x = true) ∧ ¬ (1 < W.length ∧ W.head? = some 48) := by
  constructor
  · intro h
    obtain ⟨h1, h2⟩ := cnt_digs h
    refine ⟨h1, h2, fun ⟨h3, h4⟩ => ?_⟩
    rcases cnt_cases h with e | ⟨c, r, e, hc, _⟩
    · rw [e] at h3; simp at h3
    · rw [e] at h4; simp at h4; exact hc h4
  · rintro ⟨h1, h2, h3⟩
    cases W with
    | nil => exact absurd rfl h1
    | cons c r =>
      show ((c == 48 && r.isEmpty) || (c != 48 && (c :: r).all isDg)) = true
      by_cases hc : c = 48
      · have : r = [] := by
          cases r with
          | nil => rfl
          | cons x y => exact absurd ⟨by simp, by rw [hc]; rfl⟩ h3
        subst hc this; rfl
      · have ha : (c :: r).all isDg = true := List.all_eq_true.2 h2
        rw [ha]; simp [hc]
/-- What has another byte in it is no amount. -/
theorem fin_no {b : Bool} {F : List UInt8} {d : Nat} {c : UInt8} (h : c ∈ F) (hc : isDg c = false) : finR b F d = (0, 13) := by
  unfold finR
  rw [if_neg]
  intro ⟨_, h2, _⟩
  have := h2 c h
  rw [hc] at this; cases this
theorem read_val {b : Bool} {W H : List UInt8} {d : Nat} (hH : H.length = d) : (if (cntB W && H.all isDg) = true then readF b (W ++ H) else (0, 13)) = if W = [] then (0, 13) else finR b (W ++ H) d := by
  by_cases hw : W = []
  · subst hw
    rw [if_pos rfl, if_neg]
    intro h
    rw [Bool.and_eq_true] at h
    cases h.1
  · rw [if_neg hw]
    obtain ⟨c, r, hcr⟩ : ∃ c r, W = c :: r := by
      cases W with
      | nil => exact absurd rfl hw
      | cons c r => exact ⟨c, r, rfl⟩
    have hhd : (W ++ H).head? = W.head? := by rw [hcr]; rfl
    by_cases hc : (cntB W && H.all isDg) = true
    · rw [if_pos hc]
      rw [Bool.and_eq_true] at hc
      obtain ⟨h1, h2, h3⟩ := (cnt_iff W).1 hc.1
      have hd : ∀ x ∈ W ++ H, isDg x = true := fun x hx => (List.mem_append.1 hx).elim (h2 x) (List.all_eq_true.1 hc.2 x)
      have hne : W ++ H ≠ [] := fun e => hw (List.append_eq_nil_iff.1 e).1
      rw [readF_val hne hd b]
      unfold finR
      by_cases h0 : b = true ∧ digV 0 (W ++ H) = 0
      · rw [if_pos h0, if_neg (fun h => h.2.2.2 h0)]
      · rw [if_neg h0, if_pos ⟨hne, hd, fun h => h3 ⟨by have := h.1; rw [List.length_append] at this; omega, by rw [← hhd]; exact h.2⟩, h0⟩]
    · rw [if_neg hc]
      unfold finR
      rw [if_neg]
      rintro ⟨h1, h2, h3, h4⟩
      apply hc
      rw [Bool.and_eq_true]
      exact ⟨(cnt_iff W).2 ⟨hw, fun x hx => h2 x (List.mem_append.2 (.inl hx)), fun h => h3 ⟨by have := h.1; rw [List.length_append]; omega, by rw [hhd]; exact h.2⟩⟩, List.all_eq_true.2 fun x hx => h2 x (List.mem_append.2 (.inr hx))⟩

theorem read_ref (B : List UInt8) (d : Nat) : readK B d = refR (hasPrefix B [45]) (trimPrefix B [45]) d := by
  unfold readK refR
  generalize hasPrefix B [45] = b
  generalize trimPrefix B [45] = T
  have h46 : isDg 46 = false := by decide
  rcases cut_back T 46 with ⟨hn, e⟩ | ⟨a, H, hn, rfl, e⟩
  · rw [e]
    show (if readP d T [] false = true then readF b (T ++ []) else (0, 13)) = _
    by_cases hd : d = 0
    · subst hd
      rw [if_pos rfl]
      have hp : readP 0 T [] false = (cntB T && ([] : List UInt8).all isDg) := by unfold readP; simp
      rw [hp, read_val (H := []) rfl, List.append_nil]
      split
      · rename_i ht
        subst ht
        unfold finR
        rw [if_neg (fun h => h.1 rfl)]
      · rfl
    · have hp : readP d T [] false = false := by unfold readP; simp; intro h; omega
      rw [hp, if_neg (by decide), if_neg hd, if_neg]
      rintro ⟨_, h⟩
      exact hn (List.mem_of_getElem? h)
  · rw [e]
    show (if readP d a H true = true then readF b (a ++ H) else (0, 13)) = _
    by_cases hd : d = 0
    · subst hd
      have hp : readP 0 a H true = false := by unfold readP; simp
      rw [hp, if_neg (by decide), if_pos rfl]
      exact (fin_no (c := 46) (by simp) h46).symm
    · rw [if_neg hd]
      have hl : (a ++ 46 :: H).length = a.length + 1 + H.length := by rw [List.length_append, List.length_cons]; omega
      by_cases hH : H.length = d
      · have hp : readP d a H true = (cntB a && H.all isDg) := by unfold readP; simp [hH]; omega
        rw [hp, read_val hH]
        have hi : (a ++ 46 :: H).length - d - 1 = a.length := by omega
        have hg : (a ++ 46 :: H)[(a ++ 46 :: H).length - d - 1]? = some 46 := by rw [hi, List.getElem?_append_right (Nat.le_refl _)]; simp
        have hf : dotF (a ++ 46 :: H) d = a ++ H := by
          unfold dotF
          rw [hi, show (a ++ 46 :: H).length - d = a.length + 1 by omega, List.take_left, List.drop_append]
          simp
        rw [hf]
        by_cases ha : a = []
        · rw [if_pos ha, if_neg]
          rintro ⟨h, _⟩
          subst ha
          simp at hl h
          omega
        · have : 0 < a.length := List.length_pos_iff.2 ha
          rw [if_neg ha, if_pos ⟨by omega, hg⟩]
      · have hp : readP d a H true = false := by unfold readP; simp; intro _ h; exact absurd h hH
        rw [hp, if_neg (by decide)]
        split
        · rename_i h
          obtain ⟨h1, h2⟩ := h
          by_cases hlt : H.length < d
          · exfalso
            have : (a ++ 46 :: H).length - d - 1 < a.length := by omega
            rw [List.getElem?_append_left this] at h2
            exact hn (List.mem_of_getElem? h2)
          · refine (fin_no (c := 46) ?_ h46).symm
            unfold dotF
            refine List.mem_append.2 (.inl ?_)
            have : a.length < (a ++ 46 :: H).length - d - 1 := by omega
            refine List.mem_of_getElem? (i := a.length) ?_
            rw [List.getElem?_take, if_pos this, List.getElem?_append_right (Nat.le_refl _)]
            simp
        · rfl

/-- What the document's answer is. -/
def refP (l : List UInt8) : Int × Int × Int :=
  if 5 ≤ l.length ∧ l[3]? = some 32 then
    match findK (l.take 3) 8 with
    | none => (0, 0, 13)
    | some k => if (refR (hasPrefix (l.drop 4) [45]) (trimPrefix (l.drop 4) [45]) (curD k)).2 = 0 then ((k : Int), (refR (hasPrefix (l.drop 4) [45]) (trimPrefix (l.drop 4) [45]) (curD k)).1, 0)
      else (0, 0, (refR (hasPrefix (l.drop 4) [45]) (trimPrefix (l.drop 4) [45]) (curD k)).2)
  else (0, 0, 13)
theorem read_nil (d : Nat) : readK [] d = (0, 13) := by
  rw [read_ref]
  show refR (hasPrefix [] [45]) (trimPrefix [] [45]) d = _
  unfold refR
  split
  · unfold finR; rw [if_neg]; intro h; exact h.1 rfl
  · rw [if_neg]
    rintro ⟨h, _⟩
    simp [trimPrefix] at h
theorem curN_len : ∀ k < 8, (curN k).length = 3 ∧ (32 : UInt8) ∉ curN k := by decide
theorem parse_ref (l : List UInt8) : parseK l = refP l := by
  unfold parseK refP
  rcases cut_back l 32 with ⟨hn, e⟩ | ⟨a, b, hn, rfl, e⟩
  · rw [e, if_neg (fun h => hn (List.mem_of_getElem? h.2))]
    show (match findK l 8 with | none => ((0 : Int), (0 : Int), (13 : Int)) | some k => if (readK [] (curD k)).2 = 0 then ((k : Int), (readK [] (curD k)).1, 0) else (0, 0, (readK [] (curD k)).2)) = _
    cases findK l 8 with
    | none => rfl
    | some k => simp [read_nil]
  · rw [e]
    show (match findK a 8 with | none => ((0 : Int), (0 : Int), (13 : Int)) | some k => if (readK b (curD k)).2 = 0 then ((k : Int), (readK b (curD k)).1, 0) else (0, 0, (readK b (curD k)).2)) = _
    cases hf : findK a 8 with
    | none =>
      show ((0 : Int), (0 : Int), (13 : Int)) = _
      by_cases h : 5 ≤ (a ++ 32 :: b).length ∧ (a ++ 32 :: b)[3]? = some 32
      · rw [if_pos h]
        obtain ⟨h1, h2⟩ := h
        have hnone : findK ((a ++ 32 :: b).take 3) 8 = none := by
          have ha : a.length ≤ 3 := by
            rcases Nat.lt_or_ge 3 a.length with g | g
            · rw [List.getElem?_append_left g] at h2
              exact absurd (List.mem_of_getElem? h2) hn
            · exact g
          by_cases h3 : a.length = 3
          · rw [← h3, List.take_left]; exact hf
          · cases hk : findK ((a ++ 32 :: b).take 3) 8 with
            | none => rfl
            | some k =>
              have hs := findK_sound hk
              have hl := curN_len k (findK_lt hk)
              exfalso
              apply hl.2
              rw [hs]
              refine List.mem_of_getElem? (i := a.length) ?_
              rw [List.getElem?_take, if_pos (by omega), List.getElem?_append_right (Nat.le_refl _)]
              simp
        rw [hnone]
      · rw [if_neg h]
    | some k =>
      have hs := findK_sound hf
      have hl := curN_len k (findK_lt hf)
      have ha : a.length = 3 := by rw [← hs]; exact hl.1
      have ht : (a ++ 32 :: b).take 3 = a := by rw [← ha, List.take_left]
      have hd : (a ++ 32 :: b).drop 4 = b := by
        rw [show 4 = a.length + 1 by omega, List.drop_append]; simp
      have hg : (a ++ 32 :: b)[3]? = some 32 := by
        rw [← ha, List.getElem?_append_right (Nat.le_refl _)]; simp
      rw [ht, hd, hf]
      show (if (readK b (curD k)).2 = 0 then ((k : Int), (readK b (curD k)).1, (0 : Int)) else (0, 0, (readK b (curD k)).2)) = _
      rw [read_ref]
      by_cases hb : b = []
      · subst hb
        have hno : ¬ (5 ≤ (a ++ 32 :: ([] : List UInt8)).length ∧ (a ++ 32 :: ([] : List UInt8))[3]? = some 32) := by rintro ⟨h, _⟩; simp [ha] at h
        rw [if_neg hno]
        have := read_nil (curD k)
        rw [read_ref] at this
        simp [this]
      · have : 0 < b.length := List.length_pos_iff.2 hb
        have hyes : 5 ≤ (a ++ 32 :: b).length ∧ (a ++ 32 :: b)[3]? = some 32 := ⟨by rw [List.length_append, List.length_cons]; omega, hg⟩
        rw [if_pos hyes]

end Go.Proofs.YtfeaopaglhlojaaDoor

namespace Go.Proofs.YtfeaopaglhlojaaDoor
open Go.RowKit Go.Lib
set_option linter.unusedVariables false

theorem held_two {w W : World} {a a' : Option Addr} {n c n' c' : Nat} (h : HeldV w W [(w.heap.size + 1, [.bool false, .slice a n c]), (w.heap.size, [.bool false, .slice none 0 0])]) :
    HeldV w ((W.setCell ⟨w.heap.size + 1, 0, none⟩ (.bool false)).setCell ⟨w.heap.size + 1, 1, none⟩ (.slice a' n' c')) [(w.heap.size + 1, [.bool false, .slice a' n' c']), (w.heap.size, [.bool false, .slice none 0 0])] := by
  have p0 := h.get 0 rfl 0 rfl
  have p1 := h.get 0 rfl 1 rfl
  have r0 := h.get 1 rfl 0 rfl
  have r1 := h.get 1 rfl 1 rfl
  have l0 := h.lt 0 rfl
  have l1 := h.lt 1 rfl
  have co : ∀ {w : World} {b b' o o' : Nat} {v : Value}, (b ≠ b' ∨ o ≠ o') → (w.setCell ⟨b, o, none⟩ v).cell? ⟨b', o', none⟩ = w.cell? ⟨b', o', none⟩ := fun {w b b' o o' v} h => cell_other (by intro e; injection e with e1 e2; rcases h with h | h; exact h e1; exact h e2)
  have q0 : ((W.setCell ⟨w.heap.size + 1, 0, none⟩ (.bool false)).setCell ⟨w.heap.size + 1, 1, none⟩ (.slice a' n' c')).cell? ⟨w.heap.size + 1, 0, none⟩ = some (.bool false) := by
    rw [co (Or.inr (by decide))]; exact cell_same p0.1
  have q1 : ((W.setCell ⟨w.heap.size + 1, 0, none⟩ (.bool false)).setCell ⟨w.heap.size + 1, 1, none⟩ (.slice a' n' c')).cell? ⟨w.heap.size + 1, 1, none⟩ = some (.slice a' n' c') :=
    cell_same (by rw [co (Or.inr (by decide))]; exact p1.1)
  have s0 : ((W.setCell ⟨w.heap.size + 1, 0, none⟩ (.bool false)).setCell ⟨w.heap.size + 1, 1, none⟩ (.slice a' n' c')).cell? ⟨w.heap.size, 0, none⟩ = some (.bool false) := by
    rw [co (Or.inl (by omega)), co (Or.inl (by omega))]; exact r0.1
  have s1 : ((W.setCell ⟨w.heap.size + 1, 0, none⟩ (.bool false)).setCell ⟨w.heap.size + 1, 1, none⟩ (.slice a' n' c')).cell? ⟨w.heap.size, 1, none⟩ = some (.slice none 0 0) := by
    rw [co (Or.inl (by omega)), co (Or.inl (by omega))]; exact r1.1
  refine ⟨Below.setCell (Below.setCell h.bel (Nat.le_succ _) _) (Nat.le_succ _) _, fun t ht => ?_⟩
  rcases List.mem_cons.1 ht with rfl | ht
  · refine ⟨by simpa using l0, Nat.le_succ _, fun i v hv => ?_⟩
    match i, hv with
    | 0, hv => cases hv; exact ⟨q0, by simpa using p0.2⟩
    | 1, hv => cases hv; exact ⟨q1, by simpa using p1.2⟩
    | i + 2, hv => simp at hv
  · rcases List.mem_cons.1 ht with rfl | ht
    · refine ⟨by simpa using l1, Nat.le_refl _, fun i v hv => ?_⟩
      match i, hv with
      | 0, hv => cases hv; exact ⟨s0, by simpa using r0.2⟩
      | 1, hv => cases hv; exact ⟨s1, by simpa using r1.2⟩
      | i + 2, hv => simp at hv
    · cases ht
theorem big_zero (w : World) : BigV w (.agg #[.bool false, .slice none 0 0]) ((0 : Nat) : Int) :=
  big_nat (x := 0) ⟨none, 0, by rw [bitsN_zero]; rfl, by rw [bitsN_zero]; decide, by decide, Or.inl bitsN_zero⟩
theorem digV_step {l : List UInt8} {j : Nat} {c : UInt8} (h : l[j]? = some c) : digV 0 (l.take (j + 1)) = digV 0 (l.take j) * 10 + (c.toNat - 48) := by
  rw [take_snoc' h, digV_append]
  rfl
theorem digV_lt : ∀ (l : List UInt8), (∀ x ∈ l, isDg x = true) → digV 0 l < 10 ^ l.length := by
  have gen : ∀ (l : List UInt8) (a : Nat), (∀ x ∈ l, isDg x = true) → digV a l < (a + 1) * 10 ^ l.length := by
    intro l
    induction l with
    | nil => intro a _; show a < _; simp
    | cons c r ih =>
      intro a h
      have hc := isDg_iff.1 (h c (by simp))
      have := ih (a * 10 + (c.toNat - 48)) (fun x hx => h x (by simp [hx]))
      show digV (a * 10 + (c.toNat - 48)) r < _
      refine Nat.lt_of_lt_of_le this ?_
      rw [List.length_cons, Nat.pow_succ, ← Nat.mul_assoc, Nat.mul_right_comm]
      exact Nat.mul_le_mul_right _ (by omega)
  intro l h
  have := gen l 0 h
  omega
theorem ten_60 {n k m : Nat} (h : n < 10 ^ k) (hk : k ≤ 61) (hm : 244 ≤ m) : n < 2 ^ m := by
  have h1 : (10 : Nat) ^ k ≤ 10 ^ 61 := Nat.pow_le_pow_right (by decide) hk
  have h2 : (10 : Nat) ^ 61 ≤ 2 ^ 244 := by
    rw [show (244 : Nat) = 4 * 61 from rfl, Nat.pow_mul]
    exact Nat.pow_le_pow_left (by decide) 61
  exact lim_up hm (Nat.lt_of_lt_of_le h (Nat.le_trans h1 h2))

theorem nat_lim {n k j : Nat} (hk : 244 ≤ k) (hj : j ≤ 61) (h : n < 10 ^ j) : ((n : Nat) : Int).natAbs < 2 ^ k := by
  rw [Int.natAbs_natCast]; exact ten_60 h hj hk
theorem rmul_nat (n m j i k : Nat) (hk : k = 1000) (hj : j ≤ 61) (hi : i ≤ 61) (hn : n < 10 ^ j) (hm : m < 10 ^ i) (v v' : Value) (w : World) (h : BigV w v (n : Int)) (h' : BigV w v' (m : Int)) :
    Calls Tryd.prog 65 #[v, v'] w fun e w' => (∃ v, e = .returned v ∧ BigV w' v ((n * m : Nat) : Int)) ∧ Below w.heap.size w w' := by
  have h1 : ((n : Nat) : Int).natAbs < 2 ^ k := nat_lim (by omega) hj hn
  have h2 : ((m : Nat) : Int).natAbs < 2 ^ k := nat_lim (by omega) hi hm
  rw [hk] at h1 h2
  rw [Int.natCast_mul]
  exact rmul_any n m v v' w h h' h1 h2
theorem radd_nat (n m j i k : Nat) (hk : k = 1000) (hj : j ≤ 61) (hi : i ≤ 61) (hn : n < 10 ^ j) (hm : m < 10 ^ i) (v v' : Value) (w : World) (h : BigV w v (n : Int)) (h' : BigV w v' (m : Int)) :
    Calls Tryd.prog 64 #[v, v'] w fun e w' => (∃ v, e = .returned v ∧ BigV w' v ((n + m : Nat) : Int)) ∧ Below w.heap.size w w' := by
  have h1 : ((n : Nat) : Int).natAbs < 2 ^ k := nat_lim (by omega) hj hn
  have h2 : ((m : Nat) : Int).natAbs < 2 ^ k := nat_lim (by omega) hi hm
  rw [hk] at h1 h2
  rw [Int.natCast_add]
  exact radd_any n m v v' w h h' h1 h2
/-- What digits answers. -/
def BDAns (l : List UInt8) (w : World) (e : Ending) (w' : World) : Prop :=
  (∃ a n c b, ∃ z : Nat, e = .returned (.tuple #[.agg #[.bool false, .slice a n c], .bool b]) ∧ BigV w' (.agg #[.bool false, .slice a n c]) (z : Int) ∧ (b = true → (l ≠ [] ∧ ∀ x ∈ l, isDg x = true) ∧ z = digV 0 l) ∧ (b = false → ¬ (l ≠ [] ∧ ∀ x ∈ l, isDg x = true))) ∧ Below w.heap.size w w'

set_option maxHeartbeats 8000000 in
set_option maxRecDepth 100000 in
theorem bdigs_any (s : ByteArray) (hs : s.size ≤ 60) (w : World) : Calls Tryd.prog 42 #[.string s] w (BDAns s.data.toList w) := by
  obtain ⟨l, hl⟩ : ∃ l, l = s.data.toList := ⟨_, rfl⟩
  have hsz : s.size = l.length := by rw [hl, Lib.size_eq]
  rw [← hl]
  have HG := Lib.hid (fun k (h : k < s.size) => (show l[k]? = some s[k] by rw [hl]; exact get_some s k h))
  have HS := Lib.hid hsz
  have HW0 := Lib.hid (HeldV.two w [.bool false, .slice none 0 0] [.bool false, .slice none 0 0] 71 71)
  have HOf10 : Hid (∀ w, Calls Tryd.prog 66 #[.int .i64 10] w fun e w' => (∃ v, e = .returned v ∧ BigV w' v ((10 : Nat) : Int)) ∧ Below w.heap.size w w') := Lib.hid (fun w => of_any 10 w (by decide) (by decide))
  clear hl hsz
  go_enter Tryd.func42, Tryd.ntmps42
  go_wp2_with fail
  go_loopw [5] (fun vi wx => ∃ (j : Nat) (a : Option Addr) (n c : Nat), j ≤ s.size ∧ vi = .int .i64 j ∧ HeldV w wx [(w.heap.size + 1, [.bool false, .slice a n c]), (w.heap.size, [.bool false, .slice none 0 0])] ∧ BigV wx (.agg #[.bool false, .slice a n c]) ((digV 0 (l.take j) : Nat) : Int) ∧ ∀ x ∈ l.take j, isDg x = true) (fun vi _ => 60 - (RowKit.intOf vi).toNat)
  case atStart => exact ⟨0, none, 0, 0, Nat.zero_le _, rfl, HW0.out, big_zero _, fun x hx => by simp at hx⟩
  case round =>
    clear HW0
    obtain ⟨j, a, n, c, hj, rfl, hH, hV, hok⟩ := hrel
    have HH := Lib.hid hH
    have HV := Lib.hid hV
    have HOk := Lib.hid hok
    obtain ⟨c0, f0⟩ := hH.get 0 rfl 0 rfl
    obtain ⟨c1, f1⟩ := hH.get 0 rfl 1 rfl
    obtain ⟨r0, g0⟩ := hH.get 1 rfl 0 rfl
    obtain ⟨r1, g1⟩ := hH.get 1 rfl 1 rfl
    by_cases hlt : j < s.size
    · have hg := HG.out j hlt
      obtain ⟨u, hu⟩ : ∃ u : Nat, s[j].toNat = u := ⟨_, rfl⟩
      have hu255 : u ≤ 255 := by rw [← hu]; have := s[j].toNat_lt; omega
      have HU := Lib.hid hu
      have HGj := Lib.hid hg
      have i0 : (0 : Int) ≤ (j : Int) := by omega
      have i2 : (j : Int) < (s.size : Int) := by omega
      by_cases hdg : 48 ≤ u ∧ u ≤ 57
      · have b1 : ¬ (u : Int) < 48 := by omega
        have b2 : ¬ (57 : Int) < (u : Int) := by omega
        have b3 : (48 : Int) ≤ (u : Int) := by omega
        have k8 : IntKind.u8.wrap ((u : Int) - 48) = (u : Int) - 48 := IntWalk.u8_in _ (by omega)
        have k64 : IntKind.i64.wrap ((u : Int) - 48) = (u : Int) - 48 := IntWalk.i64_in _ (by omega)
        have HO2 : Hid (∀ x ∈ l.take (j + 1), isDg x = true) := Lib.hid (fun x hx => by
          rw [take_snoc' HGj.out] at hx
          rcases List.mem_append.1 hx with hx | hx
          · exact HOk.out x hx
          · rw [List.mem_singleton.1 hx, isDg_iff, HU.out]; exact hdg)
        have HSt : Hid ((digV 0 (l.take (j + 1)) : Nat) = digV 0 (l.take j) * 10 + (u - 48)) := Lib.hid (by rw [digV_step HGj.out, HU.out])
        have hlim : digV 0 (l.take j) < 10 ^ j := by
          have := digV_lt (l.take j) hok
          have e : (l.take j).length = j := by rw [List.length_take]; have := HS.out; omega
          rw [e] at this; exact this
        have hj60 : j ≤ 60 := by omega
        have hj62 : j ≤ 61 := by omega
        have hj61 : j + 1 ≤ 61 := by omega
        have hlim2 : digV 0 (l.take j) * 10 < 10 ^ (j + 1) := by rw [Nat.pow_succ]; exact Nat.mul_lt_mul_of_pos_right hlim (by decide)
        have hu3 : u - 48 < 10 ^ 3 := by show u - 48 < 1000; omega
        have HOfu : Hid (∀ w, Calls Tryd.prog 66 #[.int .i64 ((u : Int) - 48)] w fun e w' => (∃ v, e = .returned v ∧ BigV w' v ((u - 48 : Nat) : Int)) ∧ Below w.heap.size w w') := Lib.hid (fun w => by
          have h := of_any ((u : Int) - 48) w (by omega) (by omega)
          rw [show ((u - 48 : Nat) : Int) = (u : Int) - 48 by omega]; exact h)
        have HMul : Hid (∀ v w, BigV w (.agg #[.bool false, .slice a n c]) ((digV 0 (l.take j) : Nat) : Int) → BigV w v ((10 : Nat) : Int) → Calls Tryd.prog 65 #[.agg #[.bool false, .slice a n c], v] w fun e w' => (∃ v, e = .returned v ∧ BigV w' v ((digV 0 (l.take j) * 10 : Nat) : Int)) ∧ Below w.heap.size w w') := Lib.hid (fun v w h h' => by
          exact rmul_nat _ 10 j 2 1000 rfl hj62 (by decide) hlim (by decide) _ v w h h')
        have HAdd : Hid (∀ v v' w, BigV w v ((digV 0 (l.take j) * 10 : Nat) : Int) → BigV w v' ((u - 48 : Nat) : Int) → Calls Tryd.prog 64 #[v, v'] w fun e w' => (∃ v, e = .returned v ∧ BigV w' v ((digV 0 (l.take j) * 10 + (u - 48) : Nat) : Int)) ∧ Below w.heap.size w w') := Lib.hid (fun v v' w h h' => by
          exact radd_nat _ _ (j + 1) 3 1000 rfl hj61 (by decide) hlim2 hu3 v v' w h h')
        generalize digV 0 (l.take j) * 10 + (u - 48) = Z3 at *
        generalize digV 0 (l.take j) * 10 = Z2 at *
        generalize digV 0 (l.take j) = Z1 at *
        clear hH hV hok hg hdg hlim hlim2 hu3 r0 g0 r1 g1
        go_wp2_with fail
        go_region_with (first | (go_at_call 66; (with_reducible refine (HOf10.out _).mono ?_); rintro e w1 ⟨⟨v1, rfl, hv1⟩, hb1⟩; obtain ⟨s1, a1, k1, d1, rfl, hv1'⟩ := hv1.shape; have V1 := Lib.hid hv1'; have HH1 := Lib.hid (HH.out.keep (undrewB hb1)); have HV1 := Lib.hid (HV.out.keep (undrewB hb1)); have c0' := (HH1.out.get 0 rfl 0 rfl).1; have c1' := (HH1.out.get 0 rfl 1 rfl).1; have HMulw := Lib.hid (HMul.out _ w1 HV1.out V1.out); clear hb1 hv1 hv1') | (go_at_call 65; (with_reducible refine HMulw.out.mono ?_); rintro e w2 ⟨⟨v2, rfl, hv2⟩, hb2⟩; obtain ⟨s2, a2, k2, d2, rfl, hv2'⟩ := hv2.shape; have V2 := Lib.hid hv2'; have HH2 := Lib.hid (HH1.out.keep hb2); clear c0' c1'; have c0' := (HH2.out.get 0 rfl 0 rfl).1; have c1' := (HH2.out.get 0 rfl 1 rfl).1; clear hb2 hv2 hv2') | (go_at_call 64; (with_reducible refine HAddw.out.mono ?_); rintro e w4 ⟨⟨v4, rfl, hv4⟩, hb4⟩; obtain ⟨a4, k4, d4, rfl, hv4'⟩ := bigv_nat hv4; have V4 := Lib.hid hv4; have HH4 := Lib.hid (HH3.out.keep hb4); clear c0' c1'; have c0' := (HH4.out.get 0 rfl 0 rfl).1; have c1' := (HH4.out.get 0 rfl 1 rfl).1; have e0 := (HH4.out.get 0 rfl 0 rfl).2; have e1 := (HH4.out.get 0 rfl 1 rfl).2; clear hb4 hv4 hv4') | (go_at_call 66; (with_reducible refine (HOfu.out _).mono ?_); rintro e w3 ⟨⟨v3, rfl, hv3⟩, hb3⟩; obtain ⟨s3, a3, k3, d3, rfl, hv3'⟩ := hv3.shape; have V3 := Lib.hid hv3'; have HH3 := Lib.hid (HH2.out.keep hb3); have V2_3 := Lib.hid (V2.out.keep hb3); clear c0' c1'; have c0' := (HH3.out.get 0 rfl 0 rfl).1; have c1' := (HH3.out.get 0 rfl 1 rfl).1; have HAddw := Lib.hid (HAdd.out _ _ w3 V2_3.out V3.out); clear hb3 hv3 hv3'))
        all_goals go_wp2_with fail
        all_goals go_roundw
        case' rel => exact ⟨j + 1, a4, k4, d4, by omega, by go_num, held_two HH4.out, by rw [HSt.out]; exact (V4.out.set c0' (by intro n; simp) _).set (u := .slice a n c) (by rw [cell_other (by intro e; injection e with e1 e2; cases e2)]; exact c1') (by intro n; simp) _, HO2.out⟩
        all_goals first | (exact ⟨j + 1, a4, k4, d4, by omega, by go_num, held_two HH4.out, by rw [HSt.out]; exact (V4.out.set c0' (by intro n; simp) _).set (u := .slice a n c) (by rw [cell_other (by intro e; injection e with e1 e2; cases e2)]; exact c1') (by intro n; simp) _, HO2.out⟩) | (simp [RowKit.intOf]; omega)
      · have HNo : Hid (¬ (l ≠ [] ∧ ∀ x ∈ l, isDg x = true)) := Lib.hid (fun h => by
          have := isDg_iff.1 (h.2 _ (List.mem_of_getElem? HGj.out))
          rw [HU.out] at this
          exact hdg this)
        clear hH hV hok hg f0 f1
        by_cases h48 : u < 48
        · have b1 : (u : Int) < 48 := by omega
          clear hdg
          go_wp2_with fail
          exact bodyPost_ret (v := .tuple #[.agg #[.bool false, .slice a n c], .bool false]) (by simp [results, Tryd.results42, go_sem, r0, r1]) rfl ⟨⟨a, n, c, false, _, rfl, (HV.out.set r0 (by intro n; simp) _).set (u := .slice none 0 0) (by rw [cell_other (by intro e; injection e with e1 e2; cases e2)]; exact r1) (by intro n; simp) _, (fun h => by cases h), fun _ => HNo.out⟩, Below.setCell (Below.setCell HH.out.bel (Nat.le_refl _) _) (Nat.le_refl _) _⟩
        · have b1 : ¬ (u : Int) < 48 := by omega
          have b2 : (57 : Int) < (u : Int) := by omega
          clear hdg
          go_wp2_with fail
          exact bodyPost_ret (v := .tuple #[.agg #[.bool false, .slice a n c], .bool false]) (by simp [results, Tryd.results42, go_sem, r0, r1]) rfl ⟨⟨a, n, c, false, _, rfl, (HV.out.set r0 (by intro n; simp) _).set (u := .slice none 0 0) (by rw [cell_other (by intro e; injection e with e1 e2; cases e2)]; exact r1) (by intro n; simp) _, (fun h => by cases h), fun _ => HNo.out⟩, Below.setCell (Below.setCell HH.out.bel (Nat.le_refl _) _) (Nat.le_refl _) _⟩
    · obtain rfl : j = s.size := by omega
      have hall : l.take s.size = l := by rw [HS.out]; exact List.take_length
      rw [hall] at HV HOk
      by_cases h0 : 0 < s.size
      · have h0' : (0 : Int) < (s.size : Int) := by omega
        have H0 := Lib.hid h0
        have HNe : Hid (l ≠ []) := Lib.hid (fun e => by have := HS.out; rw [e, List.length_nil] at this; omega)
        clear hH hV hok hall f0 f1 h0 hlt
        go_wp2_with fail
        exact bodyPost_ret (v := .tuple #[.agg #[.bool false, .slice a n c], .bool true]) (by simp [results, Tryd.results42, go_sem, r0, r1]; exact H0.out) rfl ⟨⟨a, n, c, true, _, rfl, (HV.out.set r0 (by intro n; simp) _).set (u := .slice none 0 0) (by rw [cell_other (by intro e; injection e with e1 e2; cases e2)]; exact r1) (by intro n; simp) _, (fun _ => ⟨⟨HNe.out, HOk.out⟩, rfl⟩), fun h => by cases h⟩, Below.setCell (Below.setCell HH.out.bel (Nat.le_refl _) _) (Nat.le_refl _) _⟩
      · have h0' : ¬ (0 : Int) < (s.size : Int) := by omega
        have H0 : Hid (s = ByteArray.empty) := Lib.hid (ByteArray.size_eq_zero_iff.1 (by omega))
        have HE : Hid (l = []) := Lib.hid (by have := HS.out; exact List.length_eq_zero_iff.1 (by omega))
        clear hH hV hok hall f0 f1 h0 hlt
        go_wp2_with fail
        exact bodyPost_ret (v := .tuple #[.agg #[.bool false, .slice a n c], .bool false]) (by simp [results, Tryd.results42, go_sem, r0, r1]; exact H0.out) rfl ⟨⟨a, n, c, false, _, rfl, (HV.out.set r0 (by intro n; simp) _).set (u := .slice none 0 0) (by rw [cell_other (by intro e; injection e with e1 e2; cases e2)]; exact r1) (by intro n; simp) _, (fun h => by cases h), fun _ h => h.1 HE.out⟩, Below.setCell (Below.setCell HH.out.bel (Nat.le_refl _) _) (Nat.le_refl _) _⟩

end Go.Proofs.YtfeaopaglhlojaaDoor

namespace Go.Proofs.YtfeaopaglhlojaaDoor
open Go.RowKit Go.Lib
set_option linter.unusedVariables false

theorem ext_drop (l : List UInt8) (a : Nat) : (⟨l.toArray⟩ : ByteArray).extract a l.length = ⟨(l.drop a).toArray⟩ := by
  rw [str_ext, List.take_of_length_le (by rw [List.length_drop]; omega)]
theorem ext_take (l : List UInt8) (a : Nat) : (⟨l.toArray⟩ : ByteArray).extract 0 a = ⟨(l.take a).toArray⟩ := by
  rw [str_ext, List.drop_zero, Nat.sub_zero]
theorem byte_l (l : List UInt8) (k : Nat) (h : k < (⟨l.toArray⟩ : ByteArray).size) {c : UInt8} (hc : l[k]? = some c) : ((⟨l.toArray⟩ : ByteArray)[k]'h).toNat = c.toNat := by
  have e := get_some ⟨l.toArray⟩ k h
  have : l[k]? = some ((⟨l.toArray⟩ : ByteArray)[k]'h) := e
  rw [hc] at this
  rw [Option.some.inj this]

set_option maxHeartbeats 1000000 in
set_option maxRecDepth 100000 in
theorem rcp_short (l : List UInt8) (h : l.length < 5) (w : World) : Calls Tryd.prog 16 #[.string ⟨l.toArray⟩] w fun e w' => e = .returned (.tuple #[.int .i64 0, .int .i64 0, .int .i64 13]) ∧ Below w.heap.size w w' := by
  have h1 : (l.length : Int) < 5 := by omega
  go_enter Tryd.func16, Tryd.ntmps16
  go_wp2_with fail
  go_ret3
  exact ⟨rfl, Below.refl _ _⟩
set_option maxHeartbeats 1000000 in
set_option maxRecDepth 100000 in
theorem rcp_gap (l : List UInt8) (h : 5 ≤ l.length) (hm : l.length ≤ 60) (c : UInt8) (hc : l[3]? = some c) (hn : c ≠ 32) (w : World) : Calls Tryd.prog 16 #[.string ⟨l.toArray⟩] w fun e w' => e = .returned (.tuple #[.int .i64 0, .int .i64 0, .int .i64 13]) ∧ Below w.heap.size w w' := by
  have h1 : ¬ (l.length : Int) < 5 := by omega
  have h2 : (3 : Int) < (l.length : Int) := by omega
  obtain ⟨u, hu⟩ : ∃ u : Nat, u = c.toNat := ⟨_, rfl⟩
  have hb : ∀ h, ((⟨l.toArray⟩ : ByteArray)[3]'h).toNat = u := fun h => by rw [hu]; exact byte_l l 3 h hc
  have hne : ((u : Int) == 32) = false := by
    have : u ≠ 32 := fun e => hn (UInt8.toNat_inj.1 (by rw [← hu, e]; rfl))
    simp; omega
  clear hc hn hu
  go_enter Tryd.func16, Tryd.ntmps16
  go_wp2_with fail
  go_ret3
  exact ⟨rfl, Below.refl _ _⟩

theorem rint_nat (b : Bool) (z j k : Nat) (hk : k = 1000) (hj : j ≤ 61) (hz : z < 10 ^ j) (hb : b = true → z ≠ 0) (a : Option Addr) (n c : Nat) (w : World) (h : BigV w (.agg #[.bool false, .slice a n c]) (z : Int)) :
    Calls Tryd.prog 43 #[.agg #[.bool b, .slice a n c]] w (IntPost (sgnV b z) w) := by
  have e : (sgnV b z).natAbs = z := by unfold sgnV; split <;> simp
  have h1 : (sgnV b z).natAbs < 2 ^ k := by rw [e]; exact ten_60 hz hj (by omega)
  rw [hk] at h1
  refine rint_any (sgnV b z) _ w ?_ h1
  obtain ⟨s, hs, hsl⟩ := h
  have hs' : Value.slice a n c = s := by injection hs with hs; simp at hs; exact hs
  refine ⟨s, ?_, by rw [e]; simpa using hsl⟩
  rw [← hs']
  cases b with
  | true =>
    have : decide (sgnV true z < 0) = true := decide_eq_true (by have := hb rfl; show -(z : Int) < 0; omega)
    rw [this]
  | false =>
    have : decide (sgnV false z < 0) = false := decide_eq_false (by show ¬ (z : Int) < 0; omega)
    rw [this]
theorem big_len {w : World} {a : Option Addr} {n c z : Nat} (h : BigV w (.agg #[.bool false, .slice a n c]) (z : Int)) : n = 0 ↔ z = 0 := by
  obtain ⟨a', c', e, _⟩ := h.open
  have hn : n = (bitsN ((z : Nat) : Int).natAbs).length := by injection e with e; simp at e; exact e.2.1
  have hp := bitsN_len_pos (z := (z : Int))
  constructor
  · intro h0
    rcases Nat.eq_zero_or_pos z with g | g
    · exact g
    · have := hp.2 (by omega); omega
  · intro h0
    rcases Nat.eq_zero_or_pos n with g | g
    · exact g
    · have := hp.1 (by omega); omega

set_option maxHeartbeats 4000000 in
set_option maxRecDepth 100000 in
theorem rcp_main (l : List UInt8) (h : 5 ≤ l.length) (hm : l.length ≤ 60) (hc : l[3]? = some 32) (w : World) : Calls Tryd.prog 16 #[.string ⟨l.toArray⟩] w fun e w' => (e = .returned (.tuple #[.int .i64 (refP l).1, .int .i64 (refP l).2.1, .int .i64 (refP l).2.2])) ∧ Below w.heap.size w w' := by
  have h1 : ¬ (l.length : Int) < 5 := by omega
  have h2 : (3 : Int) < (l.length : Int) := by omega
  have h3 : (3 : Int) ≤ (l.length : Int) := by omega
  have hb : ∀ h, ((⟨l.toArray⟩ : ByteArray)[3]'h).toNat = 32 := fun h => byte_l l 3 h hc
  have hx3 := ext_take l 3
  have HRef : Hid (refP l = match findK (l.take 3) 8 with
    | none => (0, 0, 13)
    | some k => if (refR (hasPrefix (l.drop 4) [45]) (trimPrefix (l.drop 4) [45]) (curD k)).2 = 0 then ((k : Int), (refR (hasPrefix (l.drop 4) [45]) (trimPrefix (l.drop 4) [45]) (curD k)).1, 0)
      else (0, 0, (refR (hasPrefix (l.drop 4) [45]) (trimPrefix (l.drop 4) [45]) (curD k)).2)) := Lib.hid (by unfold refP; rw [if_pos ⟨h, hc⟩] <;> rfl)
  obtain ⟨R, hR⟩ : ∃ R, R = refP l := ⟨_, rfl⟩
  rw [← hR] at HRef ⊢
  obtain ⟨Y, hY⟩ : ∃ Y, Y = l.take 3 := ⟨_, rfl⟩
  rw [← hY] at HRef hx3
  have hYl : Y.length ≤ 3 := by rw [hY]; exact List.length_take_le _ _
  clear hR hc hY h
  go_enter Tryd.func16, Tryd.ntmps16
  go_wp2_with fail
  go_loopw [5, 6] (fun vw vi wx => ∃ k : Nat, k ≤ 8 ∧ vi = .int .i64 k ∧ vw = .int .i64 (wantK Y k) ∧ Below w.heap.size w wx) (fun _ vi _ => 8 - (RowKit.intOf vi).toNat)
  case atStart => exact ⟨0, by omega, rfl, rfl, Below.refl _ _⟩
  case round =>
    obtain ⟨k, hk, rfl, rfl, hb0⟩ := hrel
    have HB0 := Lib.hid hb0
    clear hb0
    by_cases hlt : k < 8
    · have HK := Lib.hid (fun w => rname_any k hlt w)
      have i1 : (k : Int) < 8 := by omega
      by_cases hE : (curN k == Y) = true
      · have HW := Lib.hid (wantK_hit hlt hE)
        generalize curN k = X at HK hE
        go_wp2_with fail
        go_region_with (go_at_call 38; (with_reducible refine (HK.out _).mono ?_); rintro e w1 ⟨rfl, hb1⟩; have HB1 := Lib.hid (bel_up HB0.out (undrewB hb1)); clear hb1)
        all_goals go_wp2_with fail
        all_goals go_roundw
        case' rel => exact ⟨k + 1, by omega, by go_num, by rw [HW.out], HB1.out⟩
        all_goals first | (exact ⟨k + 1, by omega, by go_num, by rw [HW.out], HB1.out⟩) | (simp [RowKit.intOf]; omega)
      · have hE' : (curN k == Y) = false := by simpa using hE
        have HW := Lib.hid (wantK_miss hE')
        clear hE
        generalize curN k = X at HK hE'
        go_wp2_with fail
        go_region_with (go_at_call 38; (with_reducible refine (HK.out _).mono ?_); rintro e w1 ⟨rfl, hb1⟩; have HB1 := Lib.hid (bel_up HB0.out (undrewB hb1)); clear hb1)
        all_goals go_wp2_with fail
        all_goals go_roundw
        case' rel => exact ⟨k + 1, by omega, by go_num, by rw [HW.out], HB1.out⟩
        all_goals first | (exact ⟨k + 1, by omega, by go_num, by rw [HW.out], HB1.out⟩) | (simp [RowKit.intOf]; omega)
    · obtain rfl : k = 8 := by omega
      clear hlt hk hb hx3
      cases hr : findK Y 8 with
      | none =>
        have hw : wantK Y 8 = -1 := by unfold wantK; rw [hr]
        rw [hr] at HRef
        rw [hw]
        clear hw hr
        go_wp2_with fail
        go_ret3
        exact ⟨by rw [HRef.out]; rfl, HB0.out⟩
      | some kk =>
        have hw : wantK Y 8 = (kk : Int) := by unfold wantK; rw [hr]
        have hk8 := findK_lt hr
        rw [hr] at HRef
        rw [hw]
        clear hw hr
        have HDg := Lib.hid (fun w => rdigs_any kk hk8 w)
        have hd6 := curD_le kk hk8
        obtain ⟨d, hd⟩ : ∃ d, d = curD kk := ⟨_, rfl⟩
        rw [← hd] at HDg hd6
        have j0 : ¬ (kk : Int) < 0 := by omega
        obtain ⟨B, hB⟩ : ∃ B, B = l.drop 4 := ⟨_, rfl⟩
        have hx4 : (⟨l.toArray⟩ : ByteArray).extract 4 l.length = ⟨B.toArray⟩ := by rw [hB]; exact ext_drop l 4
        have hBl : B.length = l.length - 4 := by rw [hB, List.length_drop]
        obtain ⟨b, hbb⟩ : ∃ b, b = hasPrefix B [45] := ⟨_, rfl⟩
        obtain ⟨T, hT⟩ : ∃ T, T = trimPrefix B [45] := ⟨_, rfl⟩
        have HR2 : Hid (R = if (refR b T d).2 = 0 then ((kk : Int), (refR b T d).1, 0) else (0, 0, (refR b T d).2)) := Lib.hid (by rw [HRef.out, ← hB, ← hbb, ← hT, hd])
        have hT60 : T.length ≤ 60 := by have := trimPrefix_le B; rw [← hT] at this; omega
        obtain ⟨c0, hc0⟩ : ∃ c0, B[0]? = some c0 := ⟨B[0]'(by omega), List.getElem?_eq_getElem _⟩
        obtain ⟨u, hu⟩ : ∃ u : Nat, u = c0.toNat := ⟨_, rfl⟩
        have hb0 : ∀ h, ((⟨B.toArray⟩ : ByteArray)[0]'h).toNat = u := fun h => by rw [hu]; exact byte_l B 0 h hc0
        have hub : ((u : Int) == 45) = b := by
          rw [hbb, hu]
          cases B with
          | nil => simp at hBl; omega
          | cons x y =>
            have : x = c0 := by simpa using hc0
            subst this
            unfold hasPrefix
            by_cases e : x = 45
            · subst e; rfl
            · have e1 : ((x.toNat : Int) == 45) = false := by
                have : x.toNat ≠ 45 := fun h => e (UInt8.toNat_inj.1 (by rw [h]; rfl))
                simp; omega
              rw [e1]
              simp [List.isPrefixOf, Ne.symm e]
        have hT1 : b = true → (⟨B.toArray⟩ : ByteArray).extract 1 B.length = ⟨T.toArray⟩ := fun h => by
          rw [ext_drop]
          have := minus_back.1 (hbb.symm.trans h)
          rw [← hT] at this
          rw [this]; rfl
        have hT0 : b = false → B = T := fun h => by
          have := minus_back.2 (hbb.symm.trans h)
          rw [hT]; exact this
        have hB1 : (1 : Int) ≤ (B.length : Int) := by omega
        have hB0 : (0 : Int) < (B.length : Int) := by omega
        have hl4 : (4 : Int) ≤ (l.length : Int) := by omega
        clear hB hbb hT hd hc0 hu HRef hBl
        go_upto_if 39 with fail
        go_cut [7] (fun t wx => t = .string ⟨T.toArray⟩ ∧ wx = wr)
        case first =>
          cases b with
          | true =>
            have hx := hT1 rfl
            go_wp2_with fail
            go_meet
            exact ⟨rfl, rfl⟩
          | false =>
            have hx := hT0 rfl
            go_wp2_with fail
            go_meet
            exact ⟨by first | rfl | rw [hx], rfl⟩
        case rest =>
          obtain ⟨rfl, rfl⟩ := hcut
          clear hT1 hT0 hub hb0 hB1 hB0 hx4
          go_wp2_with fail
          refine (HDg.out _).mono ?_
          rintro e w1 ⟨rfl, hb1⟩
          have HB1 := Lib.hid (bel_up HB0.out hb1)
          clear hb1
          go_upto_if 45 with fail
          by_cases hgood : d = 0 ∨ (d + 2 ≤ T.length ∧ T[T.length - d - 1]? = some 46)
          · obtain ⟨F, hF⟩ : ∃ F, F = if d = 0 then T else dotF T d := ⟨_, rfl⟩
            have HRR : Hid (refR b T d = finR b F d) := Lib.hid (by
              unfold refR
              by_cases h0 : d = 0
              · rw [if_pos h0, hF, if_pos h0, h0]
              · rw [if_neg h0, if_pos (hgood.resolve_left h0), hF, if_neg h0])
            go_cut [7] (fun t wx => t = .string ⟨F.toArray⟩ ∧ ∃ n, wx = w1.drewN n)
            case first =>
              by_cases h0 : d = 0
              · have hFT : T = F := by rw [hF, if_pos h0]
                have hkn : ¬ 0 < (d : Int) := by omega
                clear hF h0 hgood
                go_wp2_with fail
                go_meet
                exact ⟨by first | rfl | rw [hFT], 0, rfl⟩
              · have hFT : dotF T d = F := by rw [hF, if_neg h0]
                obtain ⟨g1, g2⟩ := hgood.resolve_left h0
                have hkn : 0 < (d : Int) := by omega
                have k1 : ¬ (T.length : Int) < (d : Int) + 2 := by omega
                obtain ⟨p, hp⟩ : ∃ p : Nat, (T.length : Int) - (d : Int) = (p : Int) := ⟨T.length - d, by omega⟩
                obtain ⟨q, hq⟩ : ∃ q : Nat, (p : Int) - 1 = (q : Int) := ⟨p - 1, by omega⟩
                have hq2 : q = T.length - d - 1 := by omega
                have hp2 : p = T.length - d := by omega
                have hby : ∀ h, ((⟨T.toArray⟩ : ByteArray)[q]'h).toNat = 46 := fun h => (byte_l T q h (c := 46) (by rw [hq2]; exact g2)).trans rfl
                have hq3 : (q : Int) < (T.length : Int) := by omega
                have hq4 : (0 : Int) ≤ (q : Int) := by omega
                have hp3 : (p : Int) ≤ (T.length : Int) := by omega
                have hp4 : (0 : Int) ≤ (p : Int) := by omega
                have HFX : Hid ((⟨T.toArray⟩ : ByteArray).extract 0 q ++ (⟨T.toArray⟩ : ByteArray).extract p T.length = ⟨F.toArray⟩) := Lib.hid (by
                  rw [ext_take, ext_drop, str_app, ← hFT, dotF, hq2, hp2])
                clear hF h0 hgood g1 g2 hFT hq2 hp2
                go_wp2_with fail
                go_quiet (fail)
                go_wp2_with fail
                go_meet
                exact ⟨by rw [HFX.out], nq, rfl⟩
            case rest =>
              obtain ⟨rfl, m, rfl⟩ := hcut
              have HBX := Lib.hid (bel_up HB1.out (below_any _ m))
              generalize w1.drewN m = W at *
              have hF60 : F.length ≤ 60 := by
                rw [hF]
                split
                · exact hT60
                · unfold dotF; rw [List.length_append, List.length_take, List.length_drop]; omega
              have HDs := Lib.hid (bdigs_any ⟨F.toArray⟩ (by show F.toArray.size ≤ 60; simpa using hF60) W)
              clear hF hgood HB1
              go_wp2_with fail
              refine HDs.out.mono ?_
              rintro e w2 ⟨⟨a, n, c, bb, z, rfl, hV, ht, hf⟩, hb2⟩
              have ht : bb = true → (F ≠ [] ∧ ∀ x ∈ F, isDg x = true) ∧ z = digV 0 F := ht
              have hf : bb = false → ¬ (F ≠ [] ∧ ∀ x ∈ F, isDg x = true) := hf
              have HV := Lib.hid hV
              have HL := Lib.hid (big_len hV)
              have HB2 := Lib.hid (bel_up HBX.out hb2)
              have HT := Lib.hid ht
              have HF := Lib.hid hf
              clear hb2 hV ht hf
              obtain ⟨ok, hok⟩ : ∃ ok, ok = decide (OkF b F d) := ⟨_, rfl⟩
              have HOK := Lib.hid hok
              clear hok
              go_upto_region 21 with fail
              go_cut [102] (fun t wx => t = .bool (!ok) ∧ wx = w2.alloc (.cells #[.bool false, .slice a n c] 71))
              case first =>
                cases bb with
                | false =>
                  obtain rfl : ok = false := HOK.out.trans (decide_eq_false (fun h => HF.out rfl ⟨h.1, h.2.1⟩))
                  go_wp2_with fail
                  go_meet
                  exact ⟨rfl, rfl⟩
                | true =>
                  obtain ⟨⟨hne, hall⟩, hz⟩ := HT.out rfl
                  have hFl : 0 < F.length := List.length_pos_iff.2 hne
                  obtain ⟨f0, hf0⟩ : ∃ f0, F[0]? = some f0 := ⟨F[0]'hFl, List.getElem?_eq_getElem _⟩
                  have hhd : F.head? = some f0 := by rw [List.head?_eq_getElem?]; exact hf0
                  obtain ⟨u1, hu1⟩ : ∃ u1 : Nat, u1 = f0.toNat := ⟨_, rfl⟩
                  have hbF : ∀ h, ((⟨F.toArray⟩ : ByteArray)[0]'h).toNat = u1 := fun h => by rw [hu1]; exact byte_l F 0 h hf0
                  have hF0 : (0 : Int) < (F.length : Int) := by omega
                  have hOk3 : ¬ (d + 1 < F.length ∧ f0 = 48) → ¬ (b = true ∧ n = 0) → OkF b F d := fun g1 g2 => ⟨hne, hall, fun h => g1 ⟨h.1, by have := h.2; rw [hhd] at this; exact Option.some.inj this⟩, fun h => g2 ⟨h.1, HL.out.2 (by rw [hz]; exact h.2)⟩⟩
                  have hNo1 : d + 1 < F.length ∧ f0 = 48 → ¬ OkF b F d := fun g h => h.2.2.1 ⟨g.1, by rw [hhd, g.2]⟩
                  have hNo2 : b = true ∧ n = 0 → ¬ OkF b F d := fun g h => h.2.2.2 ⟨g.1, by rw [← hz]; exact HL.out.1 g.2⟩
                  have HO3 := Lib.hid hOk3
                  have HN1 := Lib.hid hNo1
                  have HN2 := Lib.hid hNo2
                  have HU1 := Lib.hid hu1
                  clear hOk3 hNo1 hNo2 hne hall hz hf0 hhd hu1 hFl
                  by_cases hlen : d + 1 < F.length
                  · have L1 : (d : Int) + 1 < (F.length : Int) := by omega
                    by_cases h48 : f0 = 48
                    · obtain rfl : ok = false := HOK.out.trans (decide_eq_false (HN1.out ⟨hlen, h48⟩))
                      obtain rfl : u1 = 48 := by rw [HU1.out, h48]; rfl
                      clear h48 hlen
                      go_wp2_with fail
                      go_meet
                      exact ⟨rfl, rfl⟩
                    · have h48b : ((u1 : Int) == 48) = false := by
                        have : u1 ≠ 48 := fun e => h48 (UInt8.toNat_inj.1 (by rw [← HU1.out, e]; rfl))
                        simp; omega
                      have H48 := Lib.hid h48
                      clear h48 hlen
                      cases b with
                      | true =>
                        by_cases hn : n = 0
                        · obtain rfl : ok = false := HOK.out.trans (decide_eq_false (HN2.out ⟨rfl, hn⟩))
                          subst hn
                          go_wp2_with fail
                          go_meet
                          exact ⟨rfl, rfl⟩
                        · obtain rfl : ok = true := HOK.out.trans (decide_eq_true (HO3.out (fun h => H48.out h.2) (fun h => hn h.2)))
                          have hnb : ((n : Int) == 0) = false := by simp; omega
                          clear hn
                          go_wp2_with fail
                          go_meet
                          exact ⟨rfl, rfl⟩
                      | false =>
                        obtain rfl : ok = true := HOK.out.trans (decide_eq_true (HO3.out (fun h => H48.out h.2) (fun h => by cases h.1)))
                        go_wp2_with fail
                        go_meet
                        exact ⟨rfl, rfl⟩
                  · have L1 : ¬ (d : Int) + 1 < (F.length : Int) := by omega
                    have HLen := Lib.hid hlen
                    clear hlen
                    cases b with
                    | true =>
                      by_cases hn : n = 0
                      · obtain rfl : ok = false := HOK.out.trans (decide_eq_false (HN2.out ⟨rfl, hn⟩))
                        subst hn
                        go_wp2_with fail
                        go_meet
                        exact ⟨rfl, rfl⟩
                      · obtain rfl : ok = true := HOK.out.trans (decide_eq_true (HO3.out (fun h => HLen.out h.1) (fun h => hn h.2)))
                        have hnb : ((n : Int) == 0) = false := by simp; omega
                        clear hn
                        go_wp2_with fail
                        go_meet
                        exact ⟨rfl, rfl⟩
                    | false =>
                      obtain rfl : ok = true := HOK.out.trans (decide_eq_true (HO3.out (fun h => HLen.out h.1) (fun h => by cases h.1)))
                      go_wp2_with fail
                      go_meet
                      exact ⟨rfl, rfl⟩
              case rest =>
                obtain ⟨rfl, rfl⟩ := hcut
                cases ok with
                | false =>
                  have HFin : Hid (finR b F d = (0, 13)) := Lib.hid (by unfold finR; rw [if_neg (of_decide_eq_false HOK.out.symm)])
                  go_wp2_with fail
                  go_ret3
                  exact ⟨by rw [HR2.out, HRR.out, HFin.out]; rfl, bel_up HB2.out (below_one w2 _)⟩
                | true =>
                  have hOk : OkF b F d := of_decide_eq_true HOK.out.symm
                  have HFin : Hid (finR b F d = valR b F) := Lib.hid (by unfold finR; rw [if_pos hOk])
                  have hbb : bb = true := by
                    cases bb with
                    | true => rfl
                    | false => exact absurd ⟨hOk.1, hOk.2.1⟩ (HF.out rfl)
                  have hz : z = digV 0 F := (HT.out hbb).2
                  have HInt := Lib.hid (rint_nat b z F.length 1000 rfl (by omega) (by rw [hz]; exact digV_lt F hOk.2.1) (fun h1 h2 => hOk.2.2.2 ⟨h1, by rw [← hz]; exact h2⟩) a n c (w2.alloc (.cells #[.bool b, .slice a n c] 71)) (HV.out.keep (below_one w2 _)))
                  have HZ := Lib.hid hz
                  by_cases hfit : I64 (sgnV b z)
                  · have HVal : Hid (R = ((kk : Int), sgnV b z, 0)) := Lib.hid (by
                      rw [HR2.out, HRR.out, HFin.out, valR, ← hz, if_pos hfit]; rfl)
                    clear hz hOk hbb
                    go_wp2_with fail
                    refine HInt.out.mono ?_
                    rintro e w3 ⟨g1, g2, hb3⟩
                    obtain rfl := g1 (by unfold FitsZ; unfold I64 at hfit; omega)
                    have HB3 := Lib.hid (bel_up (bel_up HB2.out (below_one w2 _)) hb3)
                    clear g1 g2 hb3 hfit
                    go_wp2_with fail
                    go_ret3
                    exact ⟨by rw [HVal.out]; rfl, HB3.out⟩
                  · have HVal : Hid (R = (0, 0, 11)) := Lib.hid (by
                      rw [HR2.out, HRR.out, HFin.out, valR, ← hz, if_neg hfit]; rfl)
                    clear hz hOk hbb
                    go_wp2_with fail
                    refine HInt.out.mono ?_
                    rintro e w3 ⟨g1, g2, hb3⟩
                    obtain rfl := g2 (by unfold FitsZ; unfold I64 at hfit; omega)
                    have HB3 := Lib.hid (bel_up (bel_up HB2.out (below_one w2 _)) hb3)
                    clear g1 g2 hb3 hfit
                    go_wp2_with fail
                    go_ret3
                    exact ⟨by rw [HVal.out]; rfl, HB3.out⟩
          · have h0 : d ≠ 0 := fun h => hgood (.inl h)
            have HRR : Hid (refR b T d = (0, 13)) := Lib.hid (by
              unfold refR
              rw [if_neg h0, if_neg (fun h => hgood (.inr h))])
            have hkn : 0 < (d : Int) := by omega
            by_cases hlen : d + 2 ≤ T.length
            · have k1 : ¬ (T.length : Int) < (d : Int) + 2 := by omega
              obtain ⟨p, hp⟩ : ∃ p : Nat, (T.length : Int) - (d : Int) = (p : Int) := ⟨T.length - d, by omega⟩
              obtain ⟨q, hq⟩ : ∃ q : Nat, (p : Int) - 1 = (q : Int) := ⟨p - 1, by omega⟩
              have hq2 : q = T.length - d - 1 := by omega
              have hq3 : (q : Int) < (T.length : Int) := by omega
              have hq4 : (0 : Int) ≤ (q : Int) := by omega
              obtain ⟨y, hy⟩ : ∃ y, T[q]? = some y := ⟨T[q]'(by omega), List.getElem?_eq_getElem _⟩
              have hy46 : y ≠ 46 := fun e => hgood (.inr ⟨hlen, by rw [← hq2, hy, e]⟩)
              obtain ⟨v, hv⟩ : ∃ v : Nat, v = y.toNat := ⟨_, rfl⟩
              have hby : ∀ h, ((⟨T.toArray⟩ : ByteArray)[q]'h).toNat = v := fun h => by rw [hv]; exact byte_l T q h hy
              have hvb : ((v : Int) == 46) = false := by
                have : v ≠ 46 := fun e => hy46 (UInt8.toNat_inj.1 (by rw [← hv, e]; rfl))
                simp; omega
              clear hgood h0 hlen hq2 hy hy46 hv
              go_wp2_with fail
              go_ret3
              exact ⟨by rw [HR2.out, HRR.out]; rfl, HB1.out⟩
            · have k1 : (T.length : Int) < (d : Int) + 2 := by omega
              clear hgood h0 hlen
              go_wp2_with fail
              go_ret3
              exact ⟨by rw [HR2.out, HRR.out]; rfl, HB1.out⟩

theorem rcparse_any (l : List UInt8) (hm : l.length ≤ 60) (w : World) : Calls Tryd.prog 16 #[.string ⟨l.toArray⟩] w fun e w' => e = .returned (.tuple #[.int .i64 (parseK l).1, .int .i64 (parseK l).2.1, .int .i64 (parseK l).2.2]) ∧ Below w.heap.size w w' := by
  rw [parse_ref]
  by_cases h5 : 5 ≤ l.length
  · obtain ⟨c, hc⟩ : ∃ c, l[3]? = some c := ⟨l[3]'(by omega), List.getElem?_eq_getElem _⟩
    by_cases h32 : c = 32
    · exact rcp_main l h5 hm (by rw [hc, h32]) w
    · have hr : refP l = (0, 0, 13) := by
        unfold refP
        rw [if_neg]
        rintro ⟨_, h⟩
        rw [hc] at h
        exact h32 (Option.some.inj h)
      rw [hr]
      exact rcp_gap l h5 hm c hc h32 w
  · have hr : refP l = (0, 0, 13) := by
      unfold refP
      rw [if_neg (fun h => h5 h.1)]
    rw [hr]
    exact rcp_short l (by omega) w

set_option maxHeartbeats 1000000 in
set_option maxRecDepth 100000 in
theorem parses_long (l : List UInt8) (h : 60 < l.length) (w : World) (L : LibW w) (C : CurW w) : Calls Tryd.prog 4 #[.string ⟨l.toArray⟩] w fun e w' => e = .returned (.bool true) ∧ Below w.heap.size w w' := by
  have HA := Lib.hid (awakeC_any w L C)
  have h1 : (60 : Int) < (l.length : Int) := by omega
  clear L C
  go_enter Tryd.func4, Tryd.ntmps4
  go_wp2_with fail
  refine HA.out.mono ?_
  rintro e w1 ⟨rfl, hb1⟩
  go_wp2_with fail
  go_ret
  exact ⟨rfl, hb1⟩
set_option maxHeartbeats 1000000 in
set_option maxRecDepth 100000 in
theorem parses_ok (l : List UInt8) (h : ¬ 60 < l.length) (w : World) (L : LibW w) (C : CurW w) : Calls Tryd.prog 4 #[.string ⟨l.toArray⟩] w fun e w' => e = .returned (.bool true) ∧ Below w.heap.size w w' := by
  have HP := Lib.hid (cparse_any l (by omega) w L C)
  unfold ParseKAns at HP
  have HR := Lib.hid (fun w => rcparse_any l (by omega) w)
  have HL := Lib.hid L
  have HC := Lib.hid C
  have HA := Lib.hid (fun w L C => awakeC_any w L C)
  have h1 : ¬ (60 : Int) < (l.length : Int) := by omega
  generalize parseK l = R at *
  obtain ⟨x, y, z⟩ := R
  clear L C h
  go_enter Tryd.func4, Tryd.ntmps4
  go_wp2_with fail
  refine HP.out.mono ?_
  rintro e w1 ⟨rfl, hb⟩
  have HB := Lib.hid hb
  have HL1 := Lib.hid (HL.out.keep hb)
  have HC1 := Lib.hid (HC.out.keep hb)
  clear hb
  go_wp2_with fail
  refine (HR.out _).mono ?_
  rintro e w2 ⟨rfl, hb⟩
  have HB2 := Lib.hid (bel_up HB.out hb)
  have HL2 := Lib.hid (HL1.out.keep hb)
  have HC2 := Lib.hid (HC1.out.keep hb)
  clear hb
  go_wp2_with fail
  refine (HA.out _ HL2.out HC2.out).mono ?_
  rintro e w3 ⟨rfl, hb⟩
  have HB3 := Lib.hid (bel_up HB2.out hb)
  clear hb
  go_wp2_with fail
  go_ret
  exact ⟨rfl, HB3.out⟩
theorem parses_walk (s : ByteArray) (w : World) (L : LibW w) (C : CurW w) : Calls Tryd.prog 4 #[.string s] w fun e w' => e = .returned (.bool true) ∧ Below w.heap.size w w' := by
  rw [← Lib.mk_data s]
  generalize s.data.toList = l
  by_cases h : 60 < l.length
  · exact parses_long l h w L C
  · exact parses_ok l h w L C

end Go.Proofs.YtfeaopaglhlojaaDoor
