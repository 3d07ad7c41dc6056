/-
  EthersGroup: two addresses with the same last four bytes have one group, others two; each is one for many: the law returns true for every input, and its arguments read as before.
  Conditions: none.
-/
import Derived.Test.YtihhbniceiammaaFrmO
namespace Go.Proofs.Ytihhbniceiammaa.ethersGroup
open Go.ChangeShapes Go.WideShapes Go.ChangeAt Go.RowKit Go.Proofs.Ytihhbniceiammaa.Et

set_option maxHeartbeats 4000000 in
theorem walk (xs ys : List Int) (w : World) (hx : xs.length = 16) (hy : ys.length = 16) :
    Calls Try.prog 7 #[av xs, av ys] w fun e w' => e = .returned (.bool true) ∧ Below w.heap.size w w' := by
  have Y := ((Lay.begin w).new (bv xs) 29 rfl).new (bv ys) 29 (g := w.heap.size + 1) (by simp)
  have L := veil (Y.load (P := Try.prog) (ty := 29) mem1 (part_all _) Try.underlying29 rfl (sizeAddr hx))
  have K := veil (fun u => group_any xs u hx)
  have K2 := veil (fun u => group_any ys u hy)
  have VY := veil Y
  have HX := veil hx
  have HY := veil hy
  clear Y hx hy
  go_enter Try.func7, Try.ntmps7
  go_wp2_with (refine wpList_load_of rfl _ rfl rfl L.out ?_)
  refine (K.out _).mono ?_
  rintro e w1 ⟨rfl, q⟩
  have Y1 := VY.out.keep q
  clear q K L VY
  obtain ⟨Z, hZ⟩ : ∃ Z : Array Value, Z = #[.int .u8 0, .int .u8 0, .int .u8 0, .int .u8 0, .int .u8 0, .int .u8 0] := ⟨_, rfl⟩
  have hz : Hid (Z.toList.length = 6) := by rw [hZ]; exact rfl
  have Y2 := Y1.newA Z 23 (g := w1.heap.size) rfl
  have T := veil (store_all (P := Try.prog) (ty := 23) (vs := bv (grp xs)) (Y2.at mem0) (by rw [bv_length, grp_len HX.out, hz.out]) (sizeMac (grp_len HX.out)) (fun _ h => bv_byte h))
  have Y3 := Y2.put 0 rfl (bv (grp xs))
  simp only [List.set_cons_zero] at Y3
  obtain ⟨u1, hu1⟩ : ∃ u1, (w1.alloc (.cells Z 23)).setRow w1.heap.size (bv (grp xs)).toArray = u1 := ⟨_, rfl⟩
  rw [hu1] at T Y3
  have L := veil (Y3.load (P := Try.prog) (ty := 29) mem1 (part_all _) Try.underlying29 rfl (sizeAddr HY.out))
  have VY := veil Y3
  clear Y1 Y2 Y3 hu1 hz
  subst hZ
  go_wp2_with (first
    | (refine wpList_store_of rfl _ _ rfl rfl rfl T.out ?_)
    | (refine wpList_load_of rfl _ rfl rfl L.out ?_))
  refine (K2.out _).mono ?_
  rintro e w2 ⟨rfl, q⟩
  have Y1 := VY.out.keep q
  clear q K2 L T VY
  generalize w1.heap.size = g1 at *
  obtain ⟨Z, hZ⟩ : ∃ Z : Array Value, Z = #[.int .u8 0, .int .u8 0, .int .u8 0, .int .u8 0, .int .u8 0, .int .u8 0] := ⟨_, rfl⟩
  have hz : Hid (Z.toList.length = 6) := by rw [hZ]; exact rfl
  have Y2 := Y1.newA Z 23 (g := w2.heap.size) rfl
  have T := veil (store_all (P := Try.prog) (ty := 23) (vs := bv (grp ys)) (Y2.at mem0) (by rw [bv_length, grp_len HY.out, hz.out]) (sizeMac (grp_len HY.out)) (fun _ h => bv_byte h))
  have Y3 := Y2.put 0 rfl (bv (grp ys))
  simp only [List.set_cons_zero] at Y3
  obtain ⟨u2, hu2⟩ : ∃ u2, (w2.alloc (.cells Z 23)).setRow w2.heap.size (bv (grp ys)).toArray = u2 := ⟨_, rfl⟩
  rw [hu2] at T Y3
  have L3 := veil (Y3.load (P := Try.prog) (ty := 23) mem1 (part_all _) Try.underlying23 rfl (sizeMac (grp_len HX.out)))
  have L4 := veil (Y3.load (P := Try.prog) (ty := 23) mem0 (part_all _) Try.underlying23 rfl (sizeMac (grp_len HY.out)))
  have m0 : u2.cell? ⟨g1, 0, none⟩ = some (.int .u8 51) := Y3.look mem1 rfl
  have m1 : u2.cell? ⟨g1, 1, none⟩ = some (.int .u8 51) := Y3.look mem1 rfl
  have cx0 := Y3.look mem3 (bv_get xs 12 (by rw [HX.out]; omega))
  have cy0 := Y3.look mem2 (bv_get ys 12 (by rw [HY.out]; omega))
  have cx1 := Y3.look mem3 (bv_get xs 13 (by rw [HX.out]; omega))
  have cy1 := Y3.look mem2 (bv_get ys 13 (by rw [HY.out]; omega))
  have cx2 := Y3.look mem3 (bv_get xs 14 (by rw [HX.out]; omega))
  have cy2 := Y3.look mem2 (bv_get ys 14 (by rw [HY.out]; omega))
  have cx3 := Y3.look mem3 (bv_get xs 15 (by rw [HX.out]; omega))
  have cy3 := Y3.look mem2 (bv_get ys 15 (by rw [HY.out]; omega))
  have Y4 := veil Y3
  clear Y1 Y2 Y3 hu2 hz
  subst hZ
  obtain ⟨x0, a0⟩ : ∃ x, xs.getD 12 0 = x := ⟨_, rfl⟩
  obtain ⟨y0, b0⟩ : ∃ y, ys.getD 12 0 = y := ⟨_, rfl⟩
  rw [a0] at cx0
  rw [b0] at cy0
  replace a0 := veil a0
  replace b0 := veil b0
  obtain ⟨x1, a1⟩ : ∃ x, xs.getD 13 0 = x := ⟨_, rfl⟩
  obtain ⟨y1, b1⟩ : ∃ y, ys.getD 13 0 = y := ⟨_, rfl⟩
  rw [a1] at cx1
  rw [b1] at cy1
  replace a1 := veil a1
  replace b1 := veil b1
  obtain ⟨x2, a2⟩ : ∃ x, xs.getD 14 0 = x := ⟨_, rfl⟩
  obtain ⟨y2, b2⟩ : ∃ y, ys.getD 14 0 = y := ⟨_, rfl⟩
  rw [a2] at cx2
  rw [b2] at cy2
  replace a2 := veil a2
  replace b2 := veil b2
  obtain ⟨x3, a3⟩ : ∃ x, xs.getD 15 0 = x := ⟨_, rfl⟩
  obtain ⟨y3, b3⟩ : ∃ y, ys.getD 15 0 = y := ⟨_, rfl⟩
  rw [a3] at cx3
  rw [b3] at cy3
  replace a3 := veil a3
  replace b3 := veil b3
  by_cases e0 : x0 = y0
  rotate_left
  · skip
    have EZ : Hid (decide (grp xs = grp ys) = false) := by
      show decide (grp xs = grp ys) = false
      rw [grp_of xs HX.out, grp_of ys HY.out, a0.out, b0.out, a1.out, b1.out, a2.out, b2.out, a3.out, b3.out]
      simp [e0]
    have E : ∀ u, (binOp .eql 23 (av (grp xs)) (av (grp ys))).run Try.prog u = .ok (.bool false) u := fun u => mac_eql u (grp_len HX.out) (grp_len HY.out) EZ.out
    have f0 : (x0 == y0) = false := by simpa using e0
    clear a0 a1 a2 a3 b0 b1 b2 b3 EZ HX HY
    generalize grp xs = mx at *
    generalize grp ys = my at *
    go_wp2_with (first
      | (refine wpList_store_of rfl _ _ rfl rfl rfl T.out ?_)
      | (refine wpList_load_of rfl _ rfl rfl L3.out ?_)
      | (refine wpList_load_of rfl _ rfl rfl L4.out ?_))
    clear T
    refine (lives_true _).mono ?_
    rintro e w5 ⟨rfl, q5⟩
    have Y5 := veil (Y4.out.keep q5)
    clear q5 Y4
    go_wp2_with fail
    go_ret
    exact ⟨rfl, Y5.out.below⟩
  subst e0
  by_cases e1 : x1 = y1
  rotate_left
  · skip
    have EZ : Hid (decide (grp xs = grp ys) = false) := by
      show decide (grp xs = grp ys) = false
      rw [grp_of xs HX.out, grp_of ys HY.out, a0.out, b0.out, a1.out, b1.out, a2.out, b2.out, a3.out, b3.out]
      simp [e1]
    have E : ∀ u, (binOp .eql 23 (av (grp xs)) (av (grp ys))).run Try.prog u = .ok (.bool false) u := fun u => mac_eql u (grp_len HX.out) (grp_len HY.out) EZ.out
    have f1 : (x1 == y1) = false := by simpa using e1
    clear a0 a1 a2 a3 b0 b1 b2 b3 EZ HX HY
    generalize grp xs = mx at *
    generalize grp ys = my at *
    go_wp2_with (first
      | (refine wpList_store_of rfl _ _ rfl rfl rfl T.out ?_)
      | (refine wpList_load_of rfl _ rfl rfl L3.out ?_)
      | (refine wpList_load_of rfl _ rfl rfl L4.out ?_))
    clear T
    refine (lives_true _).mono ?_
    rintro e w5 ⟨rfl, q5⟩
    have Y5 := veil (Y4.out.keep q5)
    clear q5 Y4
    go_wp2_with fail
    go_ret
    exact ⟨rfl, Y5.out.below⟩
  subst e1
  by_cases e2 : x2 = y2
  rotate_left
  · skip
    have EZ : Hid (decide (grp xs = grp ys) = false) := by
      show decide (grp xs = grp ys) = false
      rw [grp_of xs HX.out, grp_of ys HY.out, a0.out, b0.out, a1.out, b1.out, a2.out, b2.out, a3.out, b3.out]
      simp [e2]
    have E : ∀ u, (binOp .eql 23 (av (grp xs)) (av (grp ys))).run Try.prog u = .ok (.bool false) u := fun u => mac_eql u (grp_len HX.out) (grp_len HY.out) EZ.out
    have f2 : (x2 == y2) = false := by simpa using e2
    clear a0 a1 a2 a3 b0 b1 b2 b3 EZ HX HY
    generalize grp xs = mx at *
    generalize grp ys = my at *
    go_wp2_with (first
      | (refine wpList_store_of rfl _ _ rfl rfl rfl T.out ?_)
      | (refine wpList_load_of rfl _ rfl rfl L3.out ?_)
      | (refine wpList_load_of rfl _ rfl rfl L4.out ?_))
    clear T
    refine (lives_true _).mono ?_
    rintro e w5 ⟨rfl, q5⟩
    have Y5 := veil (Y4.out.keep q5)
    clear q5 Y4
    go_wp2_with fail
    go_ret
    exact ⟨rfl, Y5.out.below⟩
  subst e2
  by_cases e3 : x3 = y3
  rotate_left
  · skip
    have EZ : Hid (decide (grp xs = grp ys) = false) := by
      show decide (grp xs = grp ys) = false
      rw [grp_of xs HX.out, grp_of ys HY.out, a0.out, b0.out, a1.out, b1.out, a2.out, b2.out, a3.out, b3.out]
      simp [e3]
    have E : ∀ u, (binOp .eql 23 (av (grp xs)) (av (grp ys))).run Try.prog u = .ok (.bool false) u := fun u => mac_eql u (grp_len HX.out) (grp_len HY.out) EZ.out
    have f3 : (x3 == y3) = false := by simpa using e3
    clear a0 a1 a2 a3 b0 b1 b2 b3 EZ HX HY
    generalize grp xs = mx at *
    generalize grp ys = my at *
    go_wp2_with (first
      | (refine wpList_store_of rfl _ _ rfl rfl rfl T.out ?_)
      | (refine wpList_load_of rfl _ rfl rfl L3.out ?_)
      | (refine wpList_load_of rfl _ rfl rfl L4.out ?_))
    clear T
    refine (lives_true _).mono ?_
    rintro e w5 ⟨rfl, q5⟩
    have Y5 := veil (Y4.out.keep q5)
    clear q5 Y4
    go_wp2_with fail
    go_ret
    exact ⟨rfl, Y5.out.below⟩
  subst e3
  · skip
    have EZ : Hid (decide (grp xs = grp ys) = true) := by
      show decide (grp xs = grp ys) = true
      rw [grp_of xs HX.out, grp_of ys HY.out, a0.out, b0.out, a1.out, b1.out, a2.out, b2.out, a3.out, b3.out]
      simp
    have E : ∀ u, (binOp .eql 23 (av (grp xs)) (av (grp ys))).run Try.prog u = .ok (.bool true) u := fun u => mac_eql u (grp_len HX.out) (grp_len HY.out) EZ.out
    clear a0 a1 a2 a3 b0 b1 b2 b3 EZ HX HY
    generalize grp xs = mx at *
    generalize grp ys = my at *
    go_wp2_with (first
      | (refine wpList_store_of rfl _ _ rfl rfl rfl T.out ?_)
      | (refine wpList_load_of rfl _ rfl rfl L3.out ?_)
      | (refine wpList_load_of rfl _ rfl rfl L4.out ?_))
    clear T
    refine (lives_true _).mono ?_
    rintro e w5 ⟨rfl, q5⟩
    have Y5 := veil (Y4.out.keep q5)
    clear q5 Y4
    go_wp2_with fail
    go_ret
    exact ⟨rfl, Y5.out.below⟩

theorem own : ownKnob Try.prog.godebug = none := by kernel_rfl
theorem readable : ∀ t ∈ Try.f7.params.toList, Try.prog.readableRec t = true ∧ t < Try.prog.types.size := by
  rw [Try.params7]
  intro t ht
  simp at ht
  subst ht
  exact ⟨by kernel_rfl, of_decide_eq_true (by kernel_rfl)⟩

set_option maxRecDepth 100000 in
theorem lifted (os : Os) (started : os.Started) (H : Type) (enc : TypeId × Value → H) :
    ReturnsInHanded {} Try.checked os 7 .any (Rows.ethersGroupSpec.pre6 enc Try.prog Try.f7 Rows.ethersGroupRow.domain false) (Rows.ethersGroupSpec.post enc Try.prog Try.f7 false true false false) := by
  refine returnsInHanded_of_change_sized (C := Try.checked) own started (by kernel_rfl) Try.func7
    (ChangeSpec.witness6 (enc := enc) (C := Try.checked) false ⟨#[], #[.agg #[.int .u8 0, .int .u8 0, .int .u8 0, .int .u8 0, .int .u8 0, .int .u8 0, .int .u8 0, .int .u8 0, .int .u8 0, .int .u8 0, .int .u8 0, .int .u8 0, .int .u8 0, .int .u8 0, .int .u8 0, .int .u8 0], .agg #[.int .u8 0, .int .u8 0, .int .u8 0, .int .u8 0, .int .u8 0, .int .u8 0, .int .u8 0, .int .u8 0, .int .u8 0, .int .u8 0, .int .u8 0, .int .u8 0, .int .u8 0, .int .u8 0, .int .u8 0, .int .u8 0]], []⟩ 8 (by kernel_rfl) (by kernel_rfl) (by kernel_rfl) (by kernel_rfl)) ?_
  intro W base args ds gs before hval0 hW _ hsz0 _
  have hval : ∀ (j : Nat) t v, Try.f7.params[j]? = some t → args[j]? = some v → Value.okWide Try.prog W .any base t v := hval0
  have hW' := hW
  obtain ⟨p, q, hA0, hV, rfl, _, _⟩ := hW
  have hA : DataW.TrodAll enc Try.prog W 0 (fun _ => true) true Try.f7.params.toList args.toList ds p := hA0
  rw [Try.params7] at hA hval
  obtain ⟨v0, vs0, d0, ds0, p0, q0, hargs, rfl, rfl, h0, r0⟩ := trodAll_cons hA
  obtain ⟨v1, vs1, d1, ds1, p1, q1, rfl, rfl, rfl, h1, r1⟩ := trodAll_cons r0
  obtain ⟨rfl, rfl, rfl⟩ := trodAll_nil r1
  obtain rfl : args = #[v0, v1] := by cases args; simp_all
  obtain ⟨rfl, rfl⟩ := trodVars_none hV
  obtain ⟨xs, rfl, hx, _⟩ := open_addr (hval 0 29 v0 rfl rfl) (opens_arg h0 (slim_of hsz0 (j := 0) rfl rfl))
  obtain ⟨ys, rfl, hy, _⟩ := open_addr (hval 1 29 v1 rfl rfl) (opens_arg h1 (slim_of hsz0 (j := 1) rfl rfl))
  have hw : Calls Try.prog 7 #[av xs, av ys] W fun e w' => e = .returned (.bool true) ∧ Below W.heap.size W w' := by
    exact walk xs ys W hx hy
  refine hw.mono fun e W' ⟨he, hb⟩ => ?_
  subst he
  exact ⟨_, rfl, law_post (by kernel_rfl) rfl rfl Try.underlying4 readable hW' rfl hb⟩

/-- EthersGroup, as given -/
theorem holds : Rows.EthersGroupSaid :=
  OpenClaim.holds_of_wide 7 Try.f7 rfl rfl rfl rfl rfl rfl rfl ⟨rfl, rfl, rfl, rfl, rfl⟩ rfl rfl rfl rfl rfl (by kernel_rfl) Try.func7 (by kernel_rfl)
    (of_decide_eq_true (by kernel_rfl)) (by unfold Func.isWrapper; first | (rw [if_pos (by decide +kernel)]; kernel_rfl) | (rw [if_neg (by decide +kernel)]; exact ⟨rfl, rfl⟩))
    (fun os started H enc _ => lifted os started H enc)

#print axioms holds
end Go.Proofs.Ytihhbniceiammaa.ethersGroup
