/-
  EthersOnly: what is got of bytes is put as these: the law returns true for every input, and its arguments read as before.
  Conditions: none.
-/
import Derived.Test.YtihhbniceiammaaFrmO
namespace Go.Proofs.Ytihhbniceiammaa.ethersOnly
open Go.ChangeShapes Go.WideShapes Go.ChangeAt Go.RowKit Go.Proofs.Ytihhbniceiammaa.Et

theorem fb_get {zs : List Int} (hz : Byt zs) (h : 14 ≤ zs.length) : fb (gd zs) (gs zs) (gk zs) (zs.drop 14) = zs := by
  have e : be (gk zs) 2 = (zs.drop 12).take 2 := by
    have hl : ((zs.drop 12).take 2).length = 2 := by simp; omega
    have hb := (hz.drop 12).take 2
    unfold gk
    match hq : (zs.drop 12).take 2, hl with
    | [x, y], _ =>
      rw [hq] at hb
      have hx := hb x (by simp)
      have hy := hb y (by simp)
      rw [be2 _ (by simp [num]; omega)]
      simp [num]
      omega
  have a1 : (zs.drop 12).take 2 ++ zs.drop 14 = zs.drop 12 := by
    have := List.take_append_drop 2 (zs.drop 12)
    rwa [List.drop_drop] at this
  have a2 : (zs.drop 6).take 6 ++ zs.drop 12 = zs.drop 6 := by
    have := List.take_append_drop 6 (zs.drop 6)
    rwa [List.drop_drop] at this
  unfold fb gd gs
  rw [e, a1, a2, List.take_append_drop]

set_option maxHeartbeats 4000000 in
theorem walk_short (A : Option Addr) (n c : Nat) (w : World) (h5 : n ≤ 5000) (h : n < 14) :
    Calls Try.prog 6 #[.slice A n c] w fun e w' => e = .returned (.bool true) ∧ Below w.heap.size w w' := by
  have K := veil (get_short A n c w h)
  have i1 : (n : Int) < 14 := by omega
  have i2 : decide ((1514 : Int) < (n : Int)) = false := by simp; omega
  have i3 : ¬ (5000 : Int) < (n : Int) := by omega
  go_enter Try.func6, Try.ntmps6
  go_wp2_with fail
  refine (K.out).mono ?_
  rintro e w1 ⟨rfl, q⟩
  obtain ⟨Z, hZ⟩ : ∃ Z, Z = zf := ⟨_, rfl⟩
  have hz : Hid (Z.toList.length = 14) := by rw [hZ]; exact rfl
  have Y1 := (Lay.begin w).keep q
  have Y2 := Y1.newA Z 27 (g := w1.heap.size) rfl
  have T := veil (frm_store (d := z6) (s := z6) (k := 0) (v := .slice none 0 0) Y2 mem0 hz.out z6_macs rfl)
  have Y3 := Y2.put 0 rfl (fc z6 z6 0 (.slice none 0 0))
  simp only [List.set_cons_zero] at Y3
  obtain ⟨u1, hu1⟩ : ∃ u1, (w1.alloc (.cells Z 27)).setRow w1.heap.size (fc z6 z6 0 (.slice none 0 0)).toArray = u1 := ⟨_, rfl⟩
  rw [hu1] at T Y3
  have L := veil (frmAt Y3 mem0 z6_macs).all
  have B := veil none_made
  have S := veil (sameFrame_true z6 z6 0 none none 0 0 0 [] u1 z6_macs rfl (by unfold maxLen; omega) (by simp [Rd]) (by simp [Rd]))
  have VY := veil Y3
  clear K q Y1 Y2 Y3 hu1 hz
  generalize z6 = z at *
  unfold zf at hZ
  subst hZ
  go_wp2_with (first
    | (refine wpList_store_of rfl _ _ rfl rfl rfl T.out ?_)
    | (refine wpList_load_of rfl _ rfl rfl L.out ?_)
    | (refine wpList_build_of rfl _ _ rfl _ (by simp [Act.eval]) (B.out _) ?_))
  refine (S.out).mono ?_
  rintro e w2 ⟨rfl, q⟩
  have VY := veil (VY.out.keep q)
  clear q S T L B
  go_wp2_with fail
  refine (lives_true _).mono ?_
  rintro e w3 ⟨rfl, q⟩
  have VY := veil (VY.out.keep q)
  clear q
  go_wp2_with fail
  go_ret
  exact ⟨rfl, VY.out.below⟩

set_option maxHeartbeats 4000000 in
theorem walk_long (A : Option Addr) (n c : Nat) (w : World) (h5 : n ≤ 5000) (h : 1514 < n) :
    Calls Try.prog 6 #[.slice A n c] w fun e w' => e = .returned (.bool true) ∧ Below w.heap.size w w' := by
  have K := veil (get_long A n c w h)
  have i1 : decide ((n : Int) < 14) = false := by simp; omega
  have i2 : (1514 : Int) < (n : Int) := by omega
  have i3 : ¬ (5000 : Int) < (n : Int) := by omega
  go_enter Try.func6, Try.ntmps6
  go_wp2_with fail
  refine (K.out).mono ?_
  rintro e w1 ⟨rfl, q⟩
  obtain ⟨Z, hZ⟩ : ∃ Z, Z = zf := ⟨_, rfl⟩
  have hz : Hid (Z.toList.length = 14) := by rw [hZ]; exact rfl
  have Y1 := (Lay.begin w).keep q
  have Y2 := Y1.newA Z 27 (g := w1.heap.size) rfl
  have T := veil (frm_store (d := z6) (s := z6) (k := 0) (v := .slice none 0 0) Y2 mem0 hz.out z6_macs rfl)
  have Y3 := Y2.put 0 rfl (fc z6 z6 0 (.slice none 0 0))
  simp only [List.set_cons_zero] at Y3
  obtain ⟨u1, hu1⟩ : ∃ u1, (w1.alloc (.cells Z 27)).setRow w1.heap.size (fc z6 z6 0 (.slice none 0 0)).toArray = u1 := ⟨_, rfl⟩
  rw [hu1] at T Y3
  have L := veil (frmAt Y3 mem0 z6_macs).all
  have B := veil none_made
  have S := veil (sameFrame_true z6 z6 0 none none 0 0 0 [] u1 z6_macs rfl (by unfold maxLen; omega) (by simp [Rd]) (by simp [Rd]))
  have VY := veil Y3
  clear K q Y1 Y2 Y3 hu1 hz
  generalize z6 = z at *
  unfold zf at hZ
  subst hZ
  go_wp2_with (first
    | (refine wpList_store_of rfl _ _ rfl rfl rfl T.out ?_)
    | (refine wpList_load_of rfl _ rfl rfl L.out ?_)
    | (refine wpList_build_of rfl _ _ rfl _ (by simp [Act.eval]) (B.out _) ?_))
  refine (S.out).mono ?_
  rintro e w2 ⟨rfl, q⟩
  have VY := veil (VY.out.keep q)
  clear q S T L B
  go_wp2_with fail
  refine (lives_true _).mono ?_
  rintro e w3 ⟨rfl, q⟩
  have VY := veil (VY.out.keep q)
  clear q
  go_wp2_with fail
  go_ret
  exact ⟨rfl, VY.out.below⟩

set_option maxHeartbeats 4000000 in
theorem walk_good (A : Option Addr) (n c : Nat) (zs : List Int) (w : World) (hl : zs.length = n) (h1 : 14 ≤ n) (h2 : n ≤ 1514) (hz : Byt zs) (hr : Rd w A zs) :
    Calls Try.prog 6 #[.slice A n c] w fun e w' => e = .returned (.bool true) ∧ Below w.heap.size w w' := by
  have K := veil (get_good A n c zs w hl h1 h2 hz hr)
  have FG := veil (fb_get hz (by omega))
  have GM := veil (get_macs (zs := zs) (by omega))
  have GK := veil (gk_bound hz)
  have HL := veil hl
  have HR := veil hr
  have i3 : ¬ (5000 : Int) < (n : Int) := by omega
  clear hl hz hr
  go_enter Try.func6, Try.ntmps6
  go_wp2_with fail
  refine (K.out).mono ?_
  rintro e w1 ⟨b, o, hb, ho, rfl, hrow, hrd, q⟩
  rw [HL.out]
  have hdl : Hid ((zs.drop 14).length = n - 14) := by have := HL.out; show (zs.drop 14).length = n - 14; simp; omega
  generalize gd zs = d at *
  generalize gs zs = s at *
  generalize gk zs = k at *
  obtain ⟨Z, hZ⟩ : ∃ Z, Z = zf := ⟨_, rfl⟩
  have hzl : Hid (Z.toList.length = 14) := by rw [hZ]; exact rfl
  have Y1 := (Lay.begin w).keep q
  have Y2 := Y1.newA Z 27 (g := w1.heap.size) rfl
  have T := veil (frm_store (d := d) (s := s) (k := k) (v := .slice (some ⟨b, o, none⟩) (n - 14) (n - 14)) Y2 mem0 hzl.out GM.out rfl)
  have Y3 := Y2.put 0 rfl (fc d s k (.slice (some ⟨b, o, none⟩) (n - 14) (n - 14)))
  simp only [List.set_cons_zero] at Y3
  have rd2 : Rd ((w1.alloc (.cells Z 27)).setRow w1.heap.size (fc d s k (.slice (some ⟨b, o, none⟩) (n - 14) (n - 14))).toArray) (some ⟨b, o, none⟩) (zs.drop 14) :=
    (hrd.keep (below_new w1 _)).setRow (fun a ha e => by injection ha with ha; subst ha; have := hrow.lt; simp only at e; omega) _
  obtain ⟨u1, hu1⟩ : ∃ u1, (w1.alloc (.cells Z 27)).setRow w1.heap.size (fc d s k (.slice (some ⟨b, o, none⟩) (n - 14) (n - 14))).toArray = u1 := ⟨_, rfl⟩
  rw [hu1] at T Y3 rd2
  have L := veil (frmAt Y3 mem0 GM.out).all
  have KP := put_any d s k (some ⟨b, o, none⟩) (n - 14) (n - 14) (zs.drop 14) u1 GM.out GK.out hdl.out (by omega) rd2
  rw [FG.out, show 14 + (n - 14) = n by omega] at KP
  replace KP := veil KP
  have VY := veil Y3
  clear K q Y1 Y2 Y3 hu1 hzl rd2 hrd hrow
  unfold zf at hZ
  subst hZ
  go_wp2_with (first
    | (refine wpList_store_of rfl _ _ rfl rfl rfl T.out ?_)
    | (refine wpList_load_of rfl _ rfl rfl L.out ?_))
  refine (KP.out).mono ?_
  rintro e w2 ⟨g, hg, rfl, r2, q⟩
  have Y4 := VY.out.got q r2 hg
  have KS := veil (sameBytes_eq (some ⟨g, 0, none⟩) A n n c zs w2 HL.out (by unfold maxLen; omega) (rd_lit (Y4.at mem0) rfl) (HR.out.keep Y4.below))
  have VY := veil Y4
  clear q r2 Y4 KP T L
  go_wp2_with fail
  refine (KS.out).mono ?_
  rintro e w3 ⟨rfl, hs⟩
  have VY := veil (VY.out.still hs)
  clear hs KS
  go_wp2_with fail
  refine (lives_true _).mono ?_
  rintro e w4 ⟨rfl, q⟩
  have VY := veil (VY.out.keep q)
  clear q
  go_wp2_with fail
  go_ret
  exact ⟨rfl, VY.out.below⟩

/-- more than are gone through -/
theorem walk_more (A : Option Addr) (n c : Nat) (w : World) (h : 5000 < n) :
    Calls Try.prog 6 #[.slice A n c] w fun e w' => e = .returned (.bool true) ∧ Below w.heap.size w w' := by
  have i3 : (5000 : Int) < (n : Int) := by omega
  go_enter Try.func6, Try.ntmps6
  go_wp2_with fail
  refine (lives_true _).mono ?_
  rintro e w1 ⟨rfl, q⟩
  go_wp2_with fail
  go_ret
  exact ⟨rfl, q⟩

theorem own : ownKnob Try.prog.godebug = none := by kernel_rfl
theorem readable : ∀ t ∈ Try.f6.params.toList, Try.prog.readableRec t = true ∧ t < Try.prog.types.size := by
  rw [Try.params6]
  intro t ht
  simp at ht
  subst ht
  exact ⟨by kernel_rfl, of_decide_eq_true (by kernel_rfl)⟩

set_option maxRecDepth 100000 in
theorem lifted (os : Os) (started : os.Started) (H : Type) (enc : TypeId × Value → H) :
    ReturnsInHanded {} Try.checked os 6 .any (Rows.ethersOnlySpec.pre6 enc Try.prog Try.f6 Rows.ethersOnlyRow.domain false) (Rows.ethersOnlySpec.post enc Try.prog Try.f6 false true false false) := by
  refine returnsInHanded_of_change_sized (C := Try.checked) own started (by kernel_rfl) Try.func6
    (ChangeSpec.witness6 (enc := enc) (C := Try.checked) false ⟨#[], #[.slice none 0 0], []⟩ 8 (by kernel_rfl) (by kernel_rfl) (by kernel_rfl) (by kernel_rfl)) ?_
  intro W base args ds gs before hval0 hW _ hsz0 _
  have hval : ∀ (j : Nat) t v, Try.f6.params[j]? = some t → args[j]? = some v → Value.okWide Try.prog W .any base t v := hval0
  have hW' := hW
  obtain ⟨p, q, hA0, hV, rfl, _, _⟩ := hW
  have hA : DataW.TrodAll enc Try.prog W 0 (fun _ => true) true Try.f6.params.toList args.toList ds p := hA0
  rw [Try.params6] at hA hval
  obtain ⟨v0, vs0, d0, ds0, p0, q0, hargs, rfl, rfl, h0, r0⟩ := trodAll_cons hA
  obtain ⟨rfl, rfl, rfl⟩ := trodAll_nil r0
  obtain rfl : args = #[v0] := by cases args; simp_all
  obtain ⟨rfl, rfl⟩ := trodVars_none hV
  obtain ⟨A, n, c, zs, e, hs, hl, hy⟩ := opens_bytes (opens_arg h0 (slim_of hsz0 (j := 0) rfl rfl))
  obtain rfl : v0 = .slice A n c := by
    obtain ⟨A', n', c', rfl⟩ := okWide_slice Try.underlying25 (hval 0 25 v0 rfl rfl)
    simpa [Value.cells] using e
  have hw : Calls Try.prog 6 #[.slice A n c] W fun e w' => e = .returned (.bool true) ∧ Below W.heap.size W w' := by
    rcases (by omega : 5000 < n ∨ (n ≤ 5000 ∧ n < 14) ∨ (n ≤ 5000 ∧ 1514 < n) ∨ (14 ≤ n ∧ n ≤ 1514)) with h | ⟨h5, h⟩ | ⟨h5, h⟩ | ⟨h1, h2⟩
    · exact walk_more A n c W h
    · exact walk_short A n c W h5 h
    · exact walk_long A n c W h5 h
    · exact walk_good A n c zs W hl h1 h2 hy (slc_rd hs).1
  refine hw.mono fun e W' ⟨he, hb⟩ => ?_
  subst he
  exact ⟨_, rfl, law_post (by kernel_rfl) rfl rfl Try.underlying4 readable hW' rfl hb⟩

/-- EthersOnly, as given -/
theorem holds : Rows.EthersOnlySaid :=
  OpenClaim.holds_of_wide 6 Try.f6 rfl rfl rfl rfl rfl rfl rfl ⟨rfl, rfl, rfl, rfl, rfl⟩ rfl rfl rfl rfl rfl (by kernel_rfl) Try.func6 (by kernel_rfl)
    (of_decide_eq_true (by kernel_rfl)) (by unfold Func.isWrapper; first | (rw [if_pos (by decide +kernel)]; kernel_rfl) | (rw [if_neg (by decide +kernel)]; exact ⟨rfl, rfl⟩))
    (fun os started H enc _ => lifted os started H enc)

#print axioms holds
end Go.Proofs.Ytihhbniceiammaa.ethersOnly
