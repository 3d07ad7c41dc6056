/-
  The chapter's answers hold, by the code.
  Conditions: the library's cell holds a number.
-/
import Derived.Test.YtdebifkefpclaaaDoorOpoD
import Derived.Test.YtdebifkefpclaaaDoorOpoB
namespace Go.Proofs.YtdebifkefpclaaaDoor.Oz
set_option maxRecDepth 100000
open Go.RowKit Ops

def os1 : List (Int × List Int) := [(1, [2, 0, 0, 0, 0, 9]), (14, [7])]
def by1 : List Int := [1, 1, 2, 0, 0, 0, 0, 9, 14, 1, 7, 0, 0, 0, 0, 0]
def os2 : List (Int × List Int) := [(1, [2, 0, 0, 0, 0, 9]), (14, [7, 0, 0, 0, 0, 0])]
def ss1 : List Str := [[97, 46, 98, 99], []]
def by2 : List Int := [0, 0, 0, 0, 0, 60, 1, 97, 2, 98, 99, 0]
theorem put1 : putO os1 = by1 := by decide
theorem goes1 : goes by1 0 [] = some [⟨1, 2, 6⟩, ⟨14, 10, 6⟩] := by
  rw [goes_next (by decide) (by decide)]
  rw [goes_next (by decide) (by decide)]
  rw [goes_end (by decide)]
  rfl
theorem plain1 : plain by1 [⟨1, 2, 6⟩, ⟨14, 10, 6⟩] = os2 := by decide
theorem dom1 : domB 60 ss1 = by2 := by decide +kernel

theorem Many.row {w0 w : World} {L : List Blk} {base : Nat} {A : Option Addr} {n c : Nat} {l : List El} (h : Many w0 w L base (.slice A n c) l) (hl : l ≠ []) : ∃ g cs, A = some ⟨g, 0, none⟩ ∧ base ≤ g ∧ Row w g 29 (List.toArray cs) ∧ ∀ (i : Nat) (x : El), l[i]? = some x → cs[i * 2]? = some (.int .u8 x.k) ∧ cs[i * 2 + 1]? = some x.v := by
  rcases h.inRow with h0 | ⟨g, cs, h1, h2, h3⟩
  · exact absurd h0 hl
  · refine ⟨g, cs.toList, h1, ?_, by simpa using h2, fun i x hx => by simpa using h3 i x hx⟩
    subst h1
    exact (World.ownsRow.lt h.own g rfl).1
/-- options that lie in a block that is known whole -/
theorem reads_lay {w0 w : World} {L : List Blk} {g : Nat} {cs : List Value} {l : List El} {os : List (Int × List Int)} (h : Lay w0 w L) (hm : (g, 29, cs) ∈ L) (hc : ∀ (i : Nat) (x : El), l[i]? = some x → cs[i * 2]? = some (.int .u8 x.k) ∧ cs[i * 2 + 1]? = some x.v) (hl : l.length = os.length)
    (hs : ∀ (i : Nat) (x : El) (o : Int × List Int), l[i]? = some x → os[i]? = some o → x.k = o.1 ∧ Slc w x.v o.2) : Reads w (some ⟨g, 0, none⟩) os :=
  InRow.reads (l := l) (.inr ⟨g, cs.toArray, rfl, h.at hm, fun i x hx => by simpa using hc i x hx⟩) hl hs
theorem byt1 : Byt by1 := fun z hz => by
  simp [by1] at hz
  omega
set_option linter.unusedSimpArgs false in
set_option maxHeartbeats 4000000 in
theorem lives_true (w : World) (hm : Mx w) : Calls Tryd.prog 10 #[] w fun e w' => e = .returned (.bool true) ∧ Below w.heap.size w w' := by
  have HM := veil hm
  have Y0 := (((Lay.begin w).new (bv [2, 0, 0, 0, 0, 9]) 5 (g := w.heap.size) rfl).new (bv [7]) 5 (g := w.heap.size + 1) (by simp)).new (cv [⟨1, some ⟨w.heap.size, 0, none⟩, 6, 6⟩, ⟨14, some ⟨w.heap.size + 1, 0, none⟩, 1, 1⟩]) 29 (g := w.heap.size + 2) (by simp)
  obtain ⟨w1, hw1⟩ : ∃ u, ((w.alloc (.cells #[.int .u8 2, .int .u8 0, .int .u8 0, .int .u8 0, .int .u8 0, .int .u8 9] 5)).alloc (.cells #[.int .u8 7] 5)).alloc (.cells #[.int .u8 1, .slice (some ⟨w.heap.size, 0, none⟩) 6 6, .int .u8 14, .slice (some ⟨w.heap.size + 1, 0, none⟩) 1 1] 29) = u := ⟨_, rfl⟩
  have Y1 : Lay w w1 [(w.heap.size + 2, 29, cv [⟨1, some ⟨w.heap.size, 0, none⟩, 6, 6⟩, ⟨14, some ⟨w.heap.size + 1, 0, none⟩, 1, 1⟩]), (w.heap.size + 1, 5, bv [7]), (w.heap.size, 5, bv [2, 0, 0, 0, 0, 9])] := by rw [← hw1]; exact Y0
  have hR1 : Reads w1 (some ⟨w.heap.size + 2, 0, none⟩) os1 := by
    refine InRow.reads (l := [⟨1, some ⟨w.heap.size, 0, none⟩, 6, 6⟩, ⟨14, some ⟨w.heap.size + 1, 0, none⟩, 1, 1⟩]) (.inr ⟨_, _, rfl, Y1.at mem0, fun i x hx => ?_⟩) rfl (fun i x o hx ho => ?_)
    · obtain ⟨h1, h2⟩ := cv_at hx
      exact ⟨by simpa using h1, by simpa using h2⟩
    · match i, hx, ho with
      | 0, hx, ho =>
        simp [os1] at hx ho
        subst hx ho
        exact ⟨rfl, slc_part (Y1.at mem2) (part_all _) rfl (Nat.le_refl _)⟩
      | 1, hx, ho =>
        simp [os1] at hx ho
        subst hx ho
        exact ⟨rfl, slc_part (Y1.at mem1) (part_all _) rfl (Nat.le_refl _)⟩
      | i + 2, hx, ho => simp [os1] at ho
  have K1 := codePut (some ⟨w.heap.size + 2, 0, none⟩) 2 2 os1 w1 rfl hR1 (by decide) (by decide) (by decide)
  rw [put1, show sizeO os1 = 16 from rfl] at K1
  replace K1 := veil K1
  have VY := veil Y1
  clear Y0 Y1 hR1 hm
  go_enter Tryd.func10, Tryd.ntmps10
  go_wp2_with fail
  refine (K1.out).mono ?_
  rintro e w2 ⟨gp, hgp, rfl, rp, q⟩
  have Y2 := VY.out.got q rp hgp
  have hg2 : w.heap.size + 2 < gp := by have := VY.out.lt mem0; omega
  have K2 := codeGet (some ⟨gp, 0, none⟩) 16 16 by1 w2 (slc_part (Y2.at mem0) (part_all _) rfl (Nat.le_refl _)) byt1 rfl (by omega)
  rw [goes1] at K2
  have K2 : Hid (Calls Tryd.prog 23 #[.slice (some ⟨gp, 0, none⟩) 16 16] w2 fun e w' => ∃ A b base cap L, e = .returned (.tuple #[.slice A 2 2, .int .i64 0]) ∧ (b, 5, bv by1) ∈ L ∧ Many w2 w' L base (.slice A 2 cap) (els b [⟨1, 2, 6⟩, ⟨14, 10, 6⟩])) := veil K2
  have VY2 := veil Y2
  clear K1 q rp hgp VY Y2 hw1
  go_wp2_with fail
  refine (K2.out).mono ?_
  rintro e w3 ⟨A, b, base, cap, L, rfl, hb, M⟩
  obtain ⟨gm, cs, hA, hbase, hrow, hcs⟩ := M.row (by simp [els])
  subst hA
  have hbr := M.lay.at hb
  have hb2 : w2.heap.size ≤ b := M.lay.own _ hb
  have hbb : b < base := M.fore _ hb
  have hgp2 := VY2.out.lt mem0
  have Y3 := VY2.out.keep M.lay.below
  have Y4 := (Y3.add (g := b) (t := 5) (cs := bv by1) hbr (by have := VY2.out.size; omega) (fun x hx => by simp at hx; rcases hx with rfl | rfl | rfl | rfl <;> simp only <;> omega)).add (g := gm) (t := 29) (cs := cs) hrow (by have := VY2.out.size; have := M.lo; omega) (fun x hx => by have := M.lo; simp at hx; rcases hx with rfl | rfl | rfl | rfl | rfl <;> simp only <;> omega)
  have Y5 := Y4.new (bv [7, 0, 0, 0, 0, 0]) 5 (g := w3.heap.size) rfl
  have c3 : (w3.alloc (.cells #[.int .u8 7, .int .u8 0, .int .u8 0, .int .u8 0, .int .u8 0, .int .u8 0] 5)).cell? ⟨w.heap.size + 2, 3, none⟩ = some (.slice (some ⟨w.heap.size + 1, 0, none⟩) 1 1) := Y5.look mem4 rfl
  have f3 : (w3.alloc (.cells #[.int .u8 7, .int .u8 0, .int .u8 0, .int .u8 0, .int .u8 0, .int .u8 0] 5)).frozen? ⟨w.heap.size + 2, 3, none⟩ = false := Y5.free mem4 3
  have Y6 := Y5.cell 4 rfl 3 (.slice (some ⟨w3.heap.size, 0, none⟩) 6 6)
  simp only [List.set_cons_zero, List.set_cons_succ] at Y6
  obtain ⟨w4, hw4⟩ : ∃ u, (w3.alloc (.cells #[.int .u8 7, .int .u8 0, .int .u8 0, .int .u8 0, .int .u8 0, .int .u8 0] 5)).setCell ⟨w.heap.size + 2, 3, none⟩ (.slice (some ⟨w3.heap.size, 0, none⟩) 6 6) = u := ⟨_, rfl⟩
  have Y7 : Lay w w4 [(w3.heap.size, 5, bv [7, 0, 0, 0, 0, 0]), (gm, 29, cs), (b, 5, bv by1), (gp, 5, bv by1), (w.heap.size + 2, 29, cv [⟨1, some ⟨w.heap.size, 0, none⟩, 6, 6⟩, ⟨14, some ⟨w3.heap.size, 0, none⟩, 6, 6⟩]), (w.heap.size + 1, 5, bv [7]), (w.heap.size, 5, bv [2, 0, 0, 0, 0, 9])] := by rw [← hw4]; exact Y6
  have hR1 : Reads w4 (some ⟨w.heap.size + 2, 0, none⟩) os2 := reads_lay Y7 mem4 (l := [⟨1, some ⟨w.heap.size, 0, none⟩, 6, 6⟩, ⟨14, some ⟨w3.heap.size, 0, none⟩, 6, 6⟩]) (fun i x hx => cv_at hx) rfl (fun i x o hx ho => by
    match i, hx, ho with
    | 0, hx, ho =>
      simp [os2] at hx ho
      subst hx ho
      exact ⟨rfl, slc_part (Y7.at (List.mem_cons_of_mem _ mem5)) (part_all _) rfl (Nat.le_refl _)⟩
    | 1, hx, ho =>
      simp [os2] at hx ho
      subst hx ho
      exact ⟨rfl, slc_part (Y7.at mem0) (part_all _) rfl (Nat.le_refl _)⟩
    | i + 2, hx, ho => simp [os2] at ho)
  have hR2 : Reads w4 (some ⟨gm, 0, none⟩) os2 := reads_lay Y7 mem1 hcs rfl (fun i x o hx ho => by
    match i, hx, ho with
    | 0, hx, ho =>
      simp [els] at hx
      simp [os2] at ho
      subst hx ho
      exact ⟨rfl, slc_part (Y7.at mem2) (fun j u hj => by rw [← hj]; simp [bv, by1]; match j, hj with | 0, _ => rfl | 1, _ => rfl | 2, _ => rfl | 3, _ => rfl | 4, _ => rfl | 5, _ => rfl | j + 6, hj => simp [bv] at hj) rfl (Nat.le_refl _)⟩
    | 1, hx, ho =>
      simp [els] at hx
      simp [os2] at ho
      subst hx ho
      exact ⟨rfl, slc_part (Y7.at mem2) (fun j u hj => by rw [← hj]; simp [bv, by1]; match j, hj with | 0, _ => rfl | 1, _ => rfl | 2, _ => rfl | 3, _ => rfl | 4, _ => rfl | 5, _ => rfl | j + 6, hj => simp [bv] at hj) rfl (Nat.le_refl _)⟩
    | i + 2, hx, ho => simp [os2] at ho)
  have VR1 := veil hR1
  have VR2 := veil hR2
  have VY7 := veil Y7
  have Y8 := Y7.new [.string (bs [97, 46, 98, 99]), .string (bs [])] 9 (g := w4.heap.size) rfl
  have hSS : ReadsS (w4.alloc (.cells #[.string (bs [97, 46, 98, 99]), .string (bs [])] 9)) (some ⟨w4.heap.size, 0, none⟩) ss1 := fun i s hi => by
    match i, hi with
    | 0, hi =>
      simp [ss1] at hi
      subst hi
      exact ⟨_, rfl, by rw [show (⟨w4.heap.size, 0, none⟩ : Addr).add 0 = ⟨w4.heap.size, 0, none⟩ by simp [Addr.add]]; exact Y8.look mem0 rfl⟩
    | 1, hi =>
      simp [ss1] at hi
      subst hi
      exact ⟨_, rfl, by rw [show (⟨w4.heap.size, 0, none⟩ : Addr).add 1 = ⟨w4.heap.size, 1, none⟩ by simp [Addr.add]]; exact Y8.look mem0 rfl⟩
    | i + 2, hi => simp [ss1] at hi
  have K3 := domains_any 60 (some ⟨w4.heap.size, 0, none⟩) 2 2 ss1 _ (by omega) rfl (by omega) hSS (by decide) (by rw [dom1]; decide) (HM.out.keep Y8.below)
  rw [dom1, show by2.length = 12 from rfl] at K3
  have q4 := below_new w4 (.cells #[.string (bs [97, 46, 98, 99]), .string (bs [])] 9)
  replace K3 := veil K3
  have VQ4 := veil q4
  have VY8 := veil Y8
  clear K2 hb M hbase hrow hcs hbr hb2 hbb hgp2 Y3 Y4 Y5 Y6 Y7 VY2 hR1 hR2 VY7 Y8 hSS q4
  go_wp2_with fail
  refine (K3.out).mono ?_
  rintro e w5 ⟨gd, hgd, rfl, rd, q5⟩
  have Y9 := VY8.out.got q5 rd hgd
  obtain ⟨ZF, hZF⟩ : ∃ Z : Array Value, Z = #[.int .u8 0, .slice none 0 0] := ⟨_, rfl⟩
  have hzf : Hid (ZF.toList.length = 2) := by rw [hZF]; exact rfl
  have Y10 := Y9.newA ZF 29 (g := w5.heap.size) rfl
  have T1 := veil (store_all (P := Tryd.prog) (ty := 29) (vs := tv ⟨31, some ⟨gd, 0, none⟩, 12, 12⟩) (Y10.at mem0) (by rw [hzf.out]; rfl) zeroO (by intro v hv; simp at hv; rcases hv with rfl | rfl <;> rfl))
  have Y11 := Y10.put 0 rfl (tv ⟨31, some ⟨gd, 0, none⟩, 12, 12⟩)
  simp only [List.set_cons_zero] at Y11
  have q6 := below_setRow (below_new w5 (.cells ZF 29)) w5.heap.size (tv ⟨31, some ⟨gd, 0, none⟩, 12, 12⟩).toArray (Nat.le_refl _)
  obtain ⟨w6, hw6⟩ : ∃ u, (w5.alloc (.cells ZF 29)).setRow w5.heap.size (tv ⟨31, some ⟨gd, 0, none⟩, 12, 12⟩).toArray = u := ⟨_, rfl⟩
  rw [hw6] at T1 Y11 q6
  have Y12 := Y11.new (bv by1) 5 (g := w6.heap.size) rfl
  have q7 := q6.trans ((below_new w6 (.cells (bv by1).toArray 5)).mono q6.size)
  have q8 : Below w4.heap.size w4 (w6.alloc (.cells (bv by1).toArray 5)) := (VQ4.out.trans (q5.mono VQ4.out.size)).trans (q7.mono (VQ4.out.trans (q5.mono VQ4.out.size)).size)
  obtain ⟨w7, hw7⟩ : ∃ u, w6.alloc (.cells #[.int .u8 1, .int .u8 1, .int .u8 2, .int .u8 0, .int .u8 0, .int .u8 0, .int .u8 0, .int .u8 9, .int .u8 14, .int .u8 1, .int .u8 7, .int .u8 0, .int .u8 0, .int .u8 0, .int .u8 0, .int .u8 0] 5) = u := ⟨_, rfl⟩
  have hw7' : w6.alloc (.cells (bv by1).toArray 5) = w7 := hw7
  rw [hw7'] at Y12 q8
  have KB := veil (sameBytes_eq (some ⟨gp, 0, none⟩) (some ⟨w6.heap.size, 0, none⟩) 16 16 16 by1 w7 rfl (by unfold maxLen; omega) (slc_of (slc_part (Y12.at (List.mem_cons_of_mem _ (List.mem_cons_of_mem _ (List.mem_cons_of_mem _ (List.mem_cons_of_mem _ mem3))))) (part_all _) rfl (Nat.le_refl _))).2.1 (slc_of (slc_part (Y12.at mem0) (part_all _) rfl (Nat.le_refl _))).2.1)
  have VQ8 := veil q8
  have VY12 := veil (Y12.sub (L' := [(w5.heap.size, 29, tv ⟨31, some ⟨gd, 0, none⟩, 12, 12⟩), (gd, 5, bv by2)]) (List.Sublist.cons _ (List.Sublist.cons_cons _ (List.Sublist.cons_cons _ (List.nil_sublist _)))))
  clear K3 q5 rd hgd Y9 Y10 Y11 Y12 q6 q7 q8 hw6 hw7' VY8 VQ4 hzf
  subst hZF
  go_wp2_with (refine wpList_store_of rfl _ _ rfl rfl rfl T1.out ?_)
  clear T1
  refine (KB.out).mono ?_
  rintro e w8 ⟨rfl, st⟩
  have q9 := below_still VQ8.out st
  have Y13 := VY12.out.still st
  have KO := veil (sameOptions_true (some ⟨w.heap.size + 2, 0, none⟩) (some ⟨gm, 0, none⟩) 2 2 2 os2 w8 rfl (VR1.out.keep q9) (VR2.out.keep q9) (by omega) (by decide))
  have VY13 := veil Y13
  clear KB st q9 Y13 VQ8 VY12 hw7 c3 f3 hw4 VR1 VR2
  go_wp2_with fail
  refine (KO.out).mono ?_
  rintro e w9 ⟨rfl, q9⟩
  have Y14 := VY13.out.keep q9
  have d0 := Y14.look mem0 (o := 0) (v := .int .u8 31) rfl
  have d1 := Y14.look mem0 (o := 1) (v := .slice (some ⟨gd, 0, none⟩) 12 12) rfl
  have Y15 := Y14.new (bv by2) 5 (g := w9.heap.size) rfl
  obtain ⟨w10, hw10⟩ : ∃ u, w9.alloc (.cells #[.int .u8 0, .int .u8 0, .int .u8 0, .int .u8 0, .int .u8 0, .int .u8 60, .int .u8 1, .int .u8 97, .int .u8 2, .int .u8 98, .int .u8 99, .int .u8 0] 5) = u := ⟨_, rfl⟩
  have hw10' : w9.alloc (.cells (bv by2).toArray 5) = w10 := hw10
  rw [hw10'] at Y15
  have d1' : w10.cell? ⟨w5.heap.size, 1, none⟩ = some (.slice (some ⟨gd, 0, none⟩) 12 12) := Y15.look mem1 rfl
  have KB := veil (sameBytes_eq (some ⟨gd, 0, none⟩) (some ⟨w9.heap.size, 0, none⟩) 12 12 12 by2 w10 rfl (by unfold maxLen; omega) (slc_of (slc_part (Y15.at mem2) (part_all _) rfl (Nat.le_refl _))).2.1 (slc_of (slc_part (Y15.at mem0) (part_all _) rfl (Nat.le_refl _))).2.1)
  have VQ := veil Y15.below
  clear KO q9 Y14 Y15 VY13 hw10'
  go_wp2_with fail
  refine (KB.out).mono ?_
  rintro e w11 ⟨rfl, st⟩
  have VQ2 := veil (below_still VQ.out st)
  clear KB st VQ
  go_wp2_with fail
  go_ret
  exact ⟨rfl, VQ2.out⟩

end Go.Proofs.YtdebifkefpclaaaDoor.Oz
