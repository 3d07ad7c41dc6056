/-
  Options that are the same, and lists of them.
  Conditions: lists that read as options; at most 16000000 bytes each.
-/
import Derived.Test.YthkiamkhignchaaDoorOpoC
import Derived.Test.YthkiamkhignchaaDoorSameB
import Derived.StillTailTactics
namespace Go.Proofs.YthkiamkhignchaaDoor.Oz
set_option maxRecDepth 100000
open Go.RowKit Ops

set_option linter.unusedSimpArgs false in
set_option maxHeartbeats 2000000 in
theorem sameOption_true (x y : El) (zs : List Int) (w : World) (hk : x.k = y.k) (hx : Slc w x.v zs) (hy : Slc w y.v zs) (hz : zs.length ≤ 16000000) :
    Calls Tryd.prog 59 #[ov x, ov y] w fun e w' => e = .returned (.bool true) ∧ Below w.heap.size w w' := by
  have Y := ((Lay.begin w).new (tv x) 46 rfl).new (tv y) 46 (g := w.heap.size + 1) (by simp)
  have a0 := Y.look mem1 (o := 0) (v := .int .u8 x.k) rfl
  have a1 := Y.look mem1 (o := 1) (v := x.v) rfl
  have b0 := Y.look mem0 (o := 0) (v := .int .u8 y.k) rfl
  have b1 := Y.look mem0 (o := 1) (v := y.v) rfl
  obtain ⟨k, A, n, c⟩ := x
  obtain ⟨k', B, m, d⟩ := y
  simp only at hk
  subst hk
  obtain rfl : n = zs.length := (slc_of hx).1.symm
  obtain rfl : m = zs.length := (slc_of hy).1.symm
  have K := veil (same_eq A B zs.length c d zs _ rfl (by unfold maxLen; omega) ((slc_of hx).2.1.keep Y.below) ((slc_of hy).2.1.keep Y.below))
  have Q := veil Y.below
  clear Y hx hy hz
  generalize zs.length = n at *
  go_enter Tryd.func59, Tryd.ntmps59
  go_wp2_with fail
  refine (K.out).mono ?_
  rintro e w2 ⟨rfl, st⟩
  clear K
  go_wp2_with fail
  go_ret
  exact ⟨rfl, below_still Q.out st⟩

set_option linter.unusedSimpArgs false in
set_option maxHeartbeats 4000000 in
theorem sameOptions_true (A B : Option Addr) (n c d : Nat) (os : List (Int × List Int)) (w : World) (hl : os.length = n) (ha : Reads w A os) (hb : Reads w B os) (hn : n ≤ 1000000) (hz : ∀ o ∈ os, o.2.length ≤ 16000000) :
    Calls Tryd.prog 51 #[.slice A n c, .slice B n d] w fun e w' => e = .returned (.bool true) ∧ Below w.heap.size w w' := by
  have HA := veil ha
  have HB := veil hb
  have HL := veil hl
  have HZ := veil hz
  clear ha hb hl hz
  go_enter Tryd.func51, Tryd.ntmps51
  go_wp2_with fail
  go_loopw [5] (fun s5 wr => ∃ i : Nat, i ≤ n ∧ s5 = .int .i64 i ∧ Hid (Below w.heap.size w wr)) (fun s5 _ => n - (intOf s5).toNat)
  case atStart => exact ⟨0, Nat.zero_le _, rfl, veil (Below.refl _ _)⟩
  case round =>
    rename_i wr
    obtain ⟨i, hi, rfl, VB⟩ := hrel
    by_cases hlt : i < n
    · have ij : (i : Int) < (n : Int) := by omega
      obtain ⟨o, ho⟩ : ∃ o, os[i]? = some o := ⟨_, List.getElem?_eq_getElem (by rw [HL.out]; exact hlt)⟩
      obtain ⟨a, x, e1, X, k1, s1⟩ := HA.out i o ho
      obtain ⟨b, y, e2, Y, k2, s2⟩ := HB.out i o ho
      subst e1 e2
      have hz1 := HZ.out o (List.mem_of_getElem? ho)
      have L1 := (X.keep VB.out)
      have L2 := (Y.keep VB.out)
      have K := veil (sameOption_true x y o.2 wr.drew (by rw [k1, k2]) (s1.keep (still_below VB.out)) (s2.keep (still_below VB.out)) hz1)
      have VD := veil (still_below VB.out)
      have c1 := L1.kind
      have c2 := L1.data
      have c3 := L2.kind
      have c4 := L2.data
      clear L1 L2 X Y s1 s2 k1 k2 ho hz1 VB
      go_wp2_with fail
      go_still_tail 8, (by kernel_rfl)
      change wpList _ _ _ _ _ wr.drew
      generalize wr.drew = w2 at *
      clear c1 c2 c3 c4
      go_wp2_with fail
      refine (K.out).mono ?_
      rintro e w3 ⟨rfl, q3⟩
      have VE := veil (VD.out.trans (q3.mono VD.out.size))
      clear K q3 VD
      go_wp2_with fail
      go_roundw
      case rel => exact ⟨i + 1, by omega, by go_num, VE⟩
      case measure => simp [intOf]; omega
    · have ij : ¬ (i : Int) < (n : Int) := by omega
      have VB' := VB.out
      go_wp2_with fail
      go_ret
      exact ⟨rfl, VB'⟩

end Go.Proofs.YthkiamkhignchaaDoor.Oz
