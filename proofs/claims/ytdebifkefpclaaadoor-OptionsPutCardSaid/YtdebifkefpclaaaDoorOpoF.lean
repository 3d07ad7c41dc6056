/-
  The first option of a kind, by the code and by the document's answer.
  Conditions: a list that reads as options; at most 16000000 bytes each.
-/
import Derived.Test.YtdebifkefpclaaaDoorOpoE
namespace Go.Proofs.YtdebifkefpclaaaDoor.Oz
set_option maxRecDepth 100000
open Go.RowKit Ops

theorem clipB (A : Option Addr) (n c : Nat) (w : World) (h : n ≤ c) : Calls Tryd.prog 58 #[.slice A n c] w fun e w' => e = .returned (.slice A n n) ∧ w = w' := by
  have h1 : ¬ c < n := by omega
  go_enter Tryd.func58, Tryd.ntmps58
  go_wp2
  go_ret
  exact ⟨rfl, rfl⟩
set_option linter.unusedSimpArgs false in
theorem cloneB (A : Option Addr) (n c : Nat) (zs : List Int) (w : World) (hs : Slc w (.slice A n c) zs) (hn : n ≤ 16000000) :
    Calls Tryd.prog 59 #[.slice A n c] w fun e w' => ∃ v, e = .returned v ∧ Own w' w.heap.size v zs ∧ Below w.heap.size w w' := by
  obtain ⟨hl, _, hc⟩ := slc_of hs
  cases A with
  | none =>
    have hz : zs = [] := by
      rcases hs with ⟨_, h⟩ | ⟨a, d, e, _⟩
      · exact h
      · cases e
    subst hz
    simp at hl
    subst hl
    have E : ∀ u, (binOp .eql 26 (.slice none 0 c) (.slice none 0 0)).run Tryd.prog u = .ok (.bool true) u := fun u => by kernel_rfl
    go_enter Tryd.func59, Tryd.ntmps59
    go_wp2_with fail
    go_ret
    exact ⟨_, rfl, own_nil _ _, Below.refl _ _⟩
  | some a =>
    have q := below_new w (.cells #[] 5)
    have hr : Row (w.alloc (.cells #[] 5)) w.heap.size 5 (bv []).toArray := row_new rfl
    have ho := own_whole0 hr
    obtain ⟨v', w', h1, h2, h3, _⟩ := run_append_slc (w.alloc (.cells #[] 5)) w.heap.size 26 (.slice (some ⟨w.heap.size, 0, none⟩) 0 0) (.slice (some a) n c) [] zs ho (hs.keep q) (by simp; omega) (by simp)
    have b : Below w.heap.size w w' := q.grown h3 q.size (fun k hk => (World.ownsRow.lt ho k hk).1)
    have E : ∀ u, (binOp .eql 26 (.slice (some a) n c) (.slice none 0 0)).run Tryd.prog u = .ok (.bool false) u := fun u => by kernel_rfl
    have H1 := veil h1
    have H2 := veil h2
    have HB := veil b
    clear hs hl hc q hr ho h1 h2 h3 b
    go_enter Tryd.func59, Tryd.ntmps59
    go_wp2_with (at_builtin; refine wpList_append_run rfl (.tmp 5) (.tmp 6) rfl rfl rfl H1.out ?_)
    go_ret
    exact ⟨_, rfl, by simpa using H2.out, HB.out⟩
where
  own_whole0 {w : World} {g : Nat} (h : Row w g 5 (bv []).toArray) : Own w g (.slice (some ⟨g, 0, none⟩) 0 0) [] :=
    ⟨by simp [bv], .inr ⟨g, 0, (bv []).toArray, rfl, Nat.le_refl _, h, Nat.le_refl _, by unfold maxLen; omega, by simp [bv], by simp [bv]⟩⟩

theorem gb_setRow (w : World) (g : Nat) (cs : Array Value) : w.grownBy (w.setRow g cs) (some g) := ⟨rfl, rfl, rfl, by simp [World.setRow], fun k hk hne => by
  unfold World.setRow
  rw [Array.getElem?_modify, if_neg (fun e => hne (by rw [e]))]⟩
/-- the first one of a kind -/
def findO (os : List (Int × List Int)) (k : Int) : Option (Int × List Int) := os.find? fun o => decide (o.1 = k)
theorem find_hit {os : List (Int × List Int)} {k : Int} {i : Nat} {o : Int × List Int} (h0 : findO (os.take i) k = none) (h : os[i]? = some o) (hk : o.1 = k) : findO os k = some o := by
  have hi : i < os.length := (List.getElem?_eq_some_iff.1 h).1
  have e : os = os.take i ++ (o :: os.drop (i + 1)) := by
    rw [List.getElem?_eq_getElem hi] at h
    injection h with h
    rw [← h, ← List.drop_eq_getElem_cons hi, List.take_append_drop]
  unfold findO at h0 ⊢
  rw [e, List.find?_append, h0]
  simp [hk]
theorem find_miss {os : List (Int × List Int)} {k : Int} {i : Nat} {o : Int × List Int} (h0 : findO (os.take i) k = none) (h : os[i]? = some o) (hk : ¬ o.1 = k) : findO (os.take (i + 1)) k = none := by
  have : os.take (i + 1) = os.take i ++ [o] := by
    rw [List.take_add_one, h]
    rfl
  unfold findO at h0 ⊢
  rw [this, List.find?_append, h0]
  simp [hk]
/-- what the code's Find answers -/
def Found (w : World) (R : Option (Int × List Int)) (e : Ending) (w' : World) : Prop := match R with
  | none => e = .returned (.tuple #[ov ⟨0, none, 0, 0⟩, .bool false]) ∧ Below w.heap.size w w'
  | some o => ∃ A n c, e = .returned (.tuple #[ov ⟨o.1, A, n, n⟩, .bool true]) ∧ Own w' w.heap.size (.slice A n c) o.2 ∧ Below w.heap.size w w'

set_option linter.unusedSimpArgs false in
set_option maxHeartbeats 4000000 in
theorem codeFind (A : Option Addr) (n c : Nat) (os : List (Int × List Int)) (k : Int) (w : World) (hl : os.length = n) (hn : n ≤ 1000000) (ha : Reads w A os) (ho : ∀ o ∈ os, o.2.length ≤ 16000000) :
    Calls Tryd.prog 13 #[.slice A n c, .int .u8 k] w (Found w (findO os k)) := by
  have HA := veil ha
  have HL := veil hl
  have HO := veil ho
  have in16 : (n : Int) ≤ 2000000 := by omega
  obtain ⟨R, hR⟩ : ∃ R, findO os k = R := ⟨_, rfl⟩
  rw [hR]
  have HR := veil hR
  obtain ⟨ZF, hZF⟩ : ∃ Z : Array Value, Z = #[.int .u8 0, .slice none 0 0] := ⟨_, rfl⟩
  have Y1 := (Lay.begin w).newA ZF 29 (g := w.heap.size) rfl
  rw [show ZF.toList = tv ⟨0, none, 0, 0⟩ by rw [hZF]] at Y1
  have VY := veil Y1
  clear ha hl ho hR Y1
  generalize hw0 : w.alloc (.cells ZF 29) = w0 at *
  obtain ⟨g0, hg0⟩ : ∃ g, w.heap.size = g := ⟨_, rfl⟩
  rw [hg0] at VY
  have HG0 := veil hg0
  subst hZF
  go_enter Tryd.func13, Tryd.ntmps13
  go_wp2_with fail
  clear hw0 hg0
  go_loopw [10] (fun s10 wr => ∃ i : Nat, i ≤ n ∧ s10 = .int .i64 i ∧ Hid (Lay w wr [(g0, 29, tv ⟨0, none, 0, 0⟩)]) ∧ Hid (findO (os.take i) k = none)) (fun s10 _ => n - (intOf s10).toNat)
  case atStart => exact ⟨0, Nat.zero_le _, rfl, VY, veil (by simp [findO])⟩
  case round =>
    rename World => wr
    obtain ⟨i, hi, rfl, VZ, HN⟩ := hrel
    clear VY
    by_cases hlt : i < n
    · have ij : (i : Int) < (n : Int) := by omega
      obtain ⟨o, ho⟩ : ∃ o, os[i]? = some o := ⟨_, List.getElem?_eq_getElem (by rw [HL.out]; exact hlt)⟩
      obtain ⟨a, x, rfl, X, k1, s1⟩ := HA.out i o ho
      have L0 := veil ((X.keep VZ.out.below).load)
      obtain ⟨ZF, hZF⟩ : ∃ Z : Array Value, Z = #[.int .u8 0, .slice none 0 0] := ⟨_, rfl⟩
      have hzf : Hid (ZF.toList.length = 2) := by rw [hZF]; exact rfl
      have Y1 := VZ.out.newA ZF 29 (g := wr.heap.size) rfl
      have T1 := veil (store_all (P := Tryd.prog) (ty := 29) (vs := tv x) (Y1.at mem0) (by rw [hzf.out]; rfl) zeroO (by intro v hv; simp at hv; rcases hv with rfl | rfl <;> rfl))
      have Y2 := Y1.put 0 rfl (tv x)
      simp only [List.set_cons_zero] at Y2
      obtain ⟨u, hu⟩ : ∃ u, (wr.alloc (.cells ZF 29)).setRow wr.heap.size (tv x).toArray = u := ⟨_, rfl⟩
      rw [hu] at T1 Y2
      have c0 := Y2.look mem0 (o := 0) (v := .int .u8 x.k) rfl
      have c1 := Y2.look mem0 (o := 1) (v := x.v) rfl
      have su := s1.keep Y2.below
      have hon := HO.out o (List.mem_of_getElem? ho)
      have HOJ := veil ho
      have HK1 := veil k1
      have VY2 := veil Y2
      have VUG := veil (Y2.lt mem1)
      obtain ⟨xk, xA, xn, xc⟩ := x
      have KC := veil (cloneB xA xn xc o.2 u su (by have : o.2.length = xn := (slc_of su).1; omega))
      clear X s1 ho Y1 Y2 hu su hon VZ k1
      generalize hw9 : wr.heap.size = g9 at *
      generalize ZF.toList = ZFL at *
      subst hZF
      by_cases hk : xk = k
      · have dk : (xk == k) = true := by simp [hk]
        have HR' : Hid (R = some o) := veil (by rw [← HR.out]; exact find_hit HN.out HOJ.out (HK1.out.symm.trans hk))
        have HKK := veil hk
        clear hk
        go_wp2_with (first
          | (refine wpList_store_of rfl _ _ rfl rfl rfl T1.out ?_)
          | (refine wpList_load_of rfl (.tmp 12) rfl rfl L0.out ?_))
        refine (KC.out).mono ?_
        rintro e w2 ⟨v, rfl, own, q2⟩
        obtain ⟨A5, c5, e5, _, hc5⟩ := own.slc.slice
        subst e5
        have KL := veil (clipB A5 o.2.length c5 w2 hc5)
        have Y3 := VY2.out.keep q2
        have VO := veil own
        have VY3 := veil Y3
        clear KC own q2 Y3 VY2 T1 L0 hzf
        go_wp2_with fail
        refine (KL.out).mono ?_
        rintro e w3 ⟨rfl, rfl⟩
        have T2 := veil (store_all (P := Tryd.prog) (ty := 29) (vs := tv ⟨k, A5, o.2.length, o.2.length⟩) (VY3.out.at mem1) rfl zeroO (by intro v hv; simp at hv; rcases hv with rfl | rfl <;> rfl))
        have Y4 := VY3.out.put 1 rfl (tv ⟨k, A5, o.2.length, o.2.length⟩)
        simp only [List.set_cons_zero, List.set_cons_succ] at Y4
        have hgu : g0 < u.heap.size := VUG.out
        have own4 : Own (w2.setRow g0 (tv ⟨k, A5, o.2.length, o.2.length⟩).toArray) w.heap.size (.slice A5 o.2.length c5) o.2 := by
          refine Own.mono (base := u.heap.size) (World.ownsRow.kept VO.out (gb_setRow w2 g0 _) ?_) (by rw [HG0.out]; exact Nat.le_of_lt hgu)
          cases hb : (Value.slice A5 o.2.length c5).ownBlock with
          | none => exact .inl rfl
          | some z => exact .inr (fun e => by injection e with e; subst e; have := (World.ownsRow.lt VO.out z hb).1; omega)
        have VY4 := veil Y4
        have VO4 := veil own4
        clear KL VY3 VO Y4 own4
        go_wp2_with (refine wpList_store_of rfl _ _ rfl rfl rfl T2.out ?_)
        refine bodyPost_ret (ret_row_tmp rfl rfl rfl (VY4.out.range mem1 (part_all _)) Tryd.underlying29 rfl zeroO) rfl ?_
        rw [HR'.out]
        refine ⟨A5, o.2.length, c5, ?_, VO4.out, VY4.out.below⟩
        rw [show o.1 = k from HK1.out.symm.trans HKK.out]
        rfl
      · have dk : (xk == k) = false := by simp [hk]
        have HMM := veil (find_miss HN.out HOJ.out (fun e => hk (HK1.out.trans e)))
        have VY3 := veil (VY2.out.sub (L' := [(g0, 29, tv ⟨0, none, 0, 0⟩)]) (List.Sublist.cons _ (List.Sublist.cons_cons _ (List.nil_sublist _))))
        clear hk KC VY2
        go_wp2_with (first
          | (refine wpList_store_of rfl _ _ rfl rfl rfl T1.out ?_)
          | (refine wpList_load_of rfl (.tmp 12) rfl rfl L0.out ?_))
        go_roundw
        case rel => exact ⟨i + 1, by omega, by go_num, VY3, HMM⟩
        case measure => simp [intOf]; omega
    · obtain rfl : i = n := by omega
      have ij : ¬ (i : Int) < (i : Int) := by omega
      have hfull : os.take i = os := List.take_of_length_le (by rw [HL.out]; omega)
      have HR' : Hid (R = none) := veil (by rw [← HR.out, ← hfull]; exact HN.out)
      have B1 := fun u => (show (Instr.build 29 #[]).run Tryd.prog u = .ok (ov ⟨0, none, 0, 0⟩) u by kernel_rfl)
      have T1 := veil (store_all (P := Tryd.prog) (ty := 29) (vs := tv ⟨0, none, 0, 0⟩) (VZ.out.at mem0) rfl zeroO (by intro v hv; simp at hv; rcases hv with rfl | rfl <;> rfl))
      have Y2 := VZ.out.put 0 rfl (tv ⟨0, none, 0, 0⟩)
      simp only [List.set_cons_zero] at Y2
      have VY2 := veil Y2
      clear hfull Y2 VZ HN
      go_wp2_with (first
        | (refine wpList_build_of rfl 29 #[] rfl #[] (by simp) (B1 _) ?_)
        | (refine wpList_store_of rfl _ _ rfl rfl rfl T1.out ?_))
      refine bodyPost_ret (ret_row_tmp rfl rfl rfl (VY2.out.range mem0 (part_all _)) Tryd.underlying29 rfl zeroO) rfl ?_
      rw [HR'.out]
      exact ⟨rfl, VY2.out.below⟩

/-- what the document's Find answers -/
def FoundR (w : World) (R : Option (Int × List Int)) (e : Ending) (w' : World) : Prop := match R with
  | none => e = .returned (.tuple #[ov ⟨0, none, 0, 0⟩, .bool false]) ∧ Below w.heap.size w w'
  | some o => ∃ x, e = .returned (.tuple #[ov x, .bool true]) ∧ x.k = o.1 ∧ Slc w' x.v o.2 ∧ Below w.heap.size w w'

set_option linter.unusedSimpArgs false in
set_option maxHeartbeats 4000000 in
theorem refFind (A : Option Addr) (n c : Nat) (os : List (Int × List Int)) (k : Int) (w : World) (hl : os.length = n) (hn : n ≤ 1000000) (ha : Reads w A os) :
    Calls Tryd.prog 14 #[.slice A n c, .int .u8 k] w (FoundR w (findO os k)) := by
  have HA := veil ha
  have HL := veil hl
  have in16 : (n : Int) ≤ 2000000 := by omega
  obtain ⟨R, hR⟩ : ∃ R, findO os k = R := ⟨_, rfl⟩
  rw [hR]
  have HR := veil hR
  obtain ⟨ZF, hZF⟩ : ∃ Z : Array Value, Z = #[.int .u8 0, .slice none 0 0] := ⟨_, rfl⟩
  have Y1 := (Lay.begin w).newA ZF 29 (g := w.heap.size) rfl
  rw [show ZF.toList = tv ⟨0, none, 0, 0⟩ by rw [hZF]] at Y1
  have VY := veil Y1
  clear ha hl hR Y1
  generalize hw0 : w.alloc (.cells ZF 29) = w0 at *
  obtain ⟨g0, hg0⟩ : ∃ g, w.heap.size = g := ⟨_, rfl⟩
  rw [hg0] at VY
  subst hZF
  go_enter Tryd.func14, Tryd.ntmps14
  go_wp2_with fail
  clear hw0 hg0
  go_loopw [6] (fun s6 wr => ∃ i : Nat, i ≤ n ∧ s6 = .int .i64 i ∧ Hid (w0 = wr) ∧ Hid (findO (os.take i) k = none)) (fun s6 _ => n - (intOf s6).toNat)
  case atStart => exact ⟨0, Nat.zero_le _, rfl, veil rfl, veil (by simp [findO])⟩
  case round =>
    rename World => wr
    obtain ⟨i, hi, rfl, hw, HN⟩ := hrel
    obtain rfl : w0 = wr := hw.out
    clear hw
    by_cases hlt : i < n
    · have ij : (i : Int) < (n : Int) := by omega
      obtain ⟨o, ho⟩ : ∃ o, os[i]? = some o := ⟨_, List.getElem?_eq_getElem (by rw [HL.out]; exact hlt)⟩
      obtain ⟨a, x, rfl, X, k1, s1⟩ := HA.out i o ho
      have X := X.keep VY.out.below
      have L0 := veil X.load
      have c0 := X.kind
      have T1 := veil (store_all (P := Tryd.prog) (ty := 29) (vs := tv x) (VY.out.at mem0) rfl zeroO (by intro v hv; simp at hv; rcases hv with rfl | rfl <;> rfl))
      have Y2 := VY.out.put 0 rfl (tv x)
      simp only [List.set_cons_zero] at Y2
      have su := veil (s1.keep Y2.below)
      have HOJ := veil ho
      have HK1 := veil k1
      have VY2 := veil Y2
      obtain ⟨xk, xA, xn, xc⟩ := x
      clear X s1 ho Y2 k1
      by_cases hk : xk = k
      · have dk : (xk == k) = true := by simp [hk]
        have HR' : Hid (R = some o) := veil (by rw [← HR.out]; exact find_hit HN.out HOJ.out (HK1.out.symm.trans hk))
        clear hk
        go_wp2_with (first
          | (refine wpList_store_of rfl _ _ rfl rfl rfl T1.out ?_)
          | (refine wpList_load_of rfl (.tmp 22) rfl rfl L0.out ?_))
        refine bodyPost_ret (ret_row_tmp rfl rfl rfl (VY2.out.range mem0 (part_all _)) Tryd.underlying29 rfl zeroO) rfl ?_
        rw [HR'.out]
        exact ⟨_, rfl, HK1.out, su.out, VY2.out.below⟩
      · have dk : (xk == k) = false := by simp [hk]
        have HMM := veil (find_miss HN.out HOJ.out (fun e => hk (HK1.out.trans e)))
        clear hk VY2 su
        go_wp2_with fail
        go_roundw
        case rel => exact ⟨i + 1, by omega, by go_num, veil (by first | trivial | rfl), HMM⟩
        case measure => simp [intOf]; omega
    · obtain rfl : i = n := by omega
      have ij : ¬ (i : Int) < (i : Int) := by omega
      have hfull : os.take i = os := List.take_of_length_le (by rw [HL.out]; omega)
      have HR' : Hid (R = none) := veil (by rw [← HR.out, ← hfull]; exact HN.out)
      have B1 := fun u => (show (Instr.build 29 #[]).run Tryd.prog u = .ok (ov ⟨0, none, 0, 0⟩) u by kernel_rfl)
      have T1 := veil (store_all (P := Tryd.prog) (ty := 29) (vs := tv ⟨0, none, 0, 0⟩) (VY.out.at mem0) rfl zeroO (by intro v hv; simp at hv; rcases hv with rfl | rfl <;> rfl))
      have Y2 := VY.out.put 0 rfl (tv ⟨0, none, 0, 0⟩)
      simp only [List.set_cons_zero] at Y2
      have VY2 := veil Y2
      clear hfull Y2 HN
      go_wp2_with (first
        | (refine wpList_build_of rfl 29 #[] rfl #[] (by simp) (B1 _) ?_)
        | (refine wpList_store_of rfl _ _ rfl rfl rfl T1.out ?_))
      refine bodyPost_ret (ret_row_tmp rfl rfl rfl (VY2.out.range mem0 (part_all _)) Tryd.underlying29 rfl zeroO) rfl ?_
      rw [HR'.out]
      exact ⟨rfl, VY2.out.below⟩

end Go.Proofs.YtdebifkefpclaaaDoor.Oz
