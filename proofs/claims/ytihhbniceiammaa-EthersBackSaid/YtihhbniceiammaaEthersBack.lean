/-
  EthersBack: a frame that is put is got, if its body has at most 1500 bytes, and is too long else; cut anywhere ahead of its body it is too short: the law returns true for every input, and its arguments read as before.
  Conditions: none.
-/
import Derived.Test.YtihhbniceiammaaFrmO
namespace Go.Proofs.Ytihhbniceiammaa.ethersBack
open Go.ChangeShapes Go.WideShapes Go.ChangeAt Go.RowKit Go.Proofs.Ytihhbniceiammaa.Et

section
variable {d s zs : List Int} {k : Int}
theorem fb_byt {w : World} {A : Option Addr} {n c : Nat} (H : Fits w d s k A n c zs) : Byt (fb d s k zs) := byt_append H.bd (byt_append H.bs (byt_append (be_byt k 2) H.byt))
theorem fb_gd (M : Macs d s) : gd (fb d s k zs) = d := by
  unfold gd fb
  rw [show 6 = d.length from M.d.symm, List.take_left]
theorem fb_drop6 (M : Macs d s) : (fb d s k zs).drop 6 = s ++ (be k 2 ++ zs) := by
  unfold fb
  rw [show 6 = d.length from M.d.symm, List.drop_left]
theorem fb_drop12 (M : Macs d s) : (fb d s k zs).drop 12 = be k 2 ++ zs := by
  have : (fb d s k zs).drop 12 = ((fb d s k zs).drop 6).drop 6 := by rw [List.drop_drop]
  rw [this, fb_drop6 M]
  conv => lhs; arg 1; rw [← M.s]
  rw [List.drop_left]
theorem fb_gs (M : Macs d s) : gs (fb d s k zs) = s := by
  unfold gs
  rw [fb_drop6 M]
  conv => lhs; arg 1; rw [← M.s]
  rw [List.take_left]
theorem fb_gk (M : Macs d s) (hk : 0 ≤ k ∧ k < 65536) : gk (fb d s k zs) = k := by
  unfold gk
  have e : (be k 2 ++ zs).take 2 = be k 2 := by
    conv => lhs; arg 1; rw [← be_length k 2]
    rw [List.take_left]
  rw [fb_drop12 M, e, num_be k hk.1]
  omega
theorem fb_body (M : Macs d s) : (fb d s k zs).drop 14 = zs := by
  have : (fb d s k zs).drop 14 = ((fb d s k zs).drop 12).drop 2 := by rw [List.drop_drop]
  rw [this, fb_drop12 M]
  conv => lhs; arg 1; rw [← be_length k 2]
  rw [List.drop_left]
end

set_option maxHeartbeats 4000000 in
theorem walk_good (d s : List Int) (k : Int) (A : Option Addr) (n c a : Nat) (zs : List Int) (w : World) (H : Fits w d s k A n c zs) (hn : n ≤ 1500) :
    Calls Try.prog 5 #[fv d s k (.slice A n c), .int .u8 a] w fun e w' => e = .returned (.bool true) ∧ Below w.heap.size w w' := by
  have HR := veil (slc_rd H.slc).1
  have HL := veil H.len
  have HM := veil H.m
  have HB := veil (fb_byt H)
  have FL := veil (fb_len (k := k) (zs := zs) H.m)
  have KK := veil H.k
  have P1 := veil (fb_gd (k := k) (zs := zs) H.m)
  have P2 := veil (fb_gs (k := k) (zs := zs) H.m)
  have P3 := veil (fb_gk (zs := zs) H.m H.k)
  have P4 := veil (fb_body (k := k) (zs := zs) H.m)
  clear H
  obtain ⟨r, hr⟩ : ∃ r, a % 14 = r := ⟨_, rfl⟩
  have hr14 : r < 14 := by omega
  have hri : (a : Int) % 14 = (r : Int) := by omega
  have hrn : (r : Int) ≤ 14 + (n : Int) := by omega
  have hr0 : (0 : Int) ≤ (r : Int) := by omega
  clear hr
  have Y := (Lay.begin w).new (fc d s k (.slice A n c)) 27 (g := w.heap.size) rfl
  have b0 := (frmAt Y mem0 HM.out).body
  have L := veil (frmAt Y mem0 HM.out).all
  have K := veil (put_any d s k A n c zs _ HM.out KK.out HL.out (by omega) (HR.out.keep Y.below))
  have VY := veil Y
  clear Y
  have i1 : ¬ (5000 : Int) < (n : Int) := by omega
  have i2 : (n : Int) ≤ 1500 := by omega
  go_enter Try.func5, Try.ntmps5
  go_wp2_with (refine wpList_load_of rfl _ rfl rfl L.out ?_)
  refine (K.out).mono ?_
  rintro e w1 ⟨g, hg, rfl, r1, q⟩
  have Y1 := VY.out.got q r1 hg
  have b0 := (frmAt Y1 mem1 HM.out).body
  have K := veil (get_short (some ⟨g, 0, none⟩) r (14 + n) w1 hr14)
  have VY := veil Y1
  clear q r1 Y1 L hg
  go_wp2_with fail
  refine (K.out).mono ?_
  rintro e w2 ⟨rfl, q⟩
  have Y1 := VY.out.keep q
  obtain ⟨Z, hZ⟩ : ∃ Z, Z = zf := ⟨_, rfl⟩
  have hzl : Hid (Z.toList.length = 14) := by rw [hZ]; exact rfl
  have Y2 := Y1.newA Z 27 (g := w2.heap.size) rfl
  have T := veil (frm_store (d := z6) (s := z6) (k := 0) (v := .slice none 0 0) Y2 mem0 hzl.out z6_macs rfl)
  have Y3 := Y2.put 0 rfl (fc z6 z6 0 (.slice none 0 0))
  simp only [List.set_cons_zero] at Y3
  obtain ⟨u1, hu⟩ : ∃ u, (w2.alloc (.cells Z 27)).setRow w2.heap.size (fc z6 z6 0 (.slice none 0 0)).toArray = u := ⟨_, rfl⟩
  rw [hu] at T Y3
  have HG := (rd_lit (Y3.at mem1) rfl : Rd u1 (some ⟨g, 0, none⟩) (fb d s k zs))
  have K2 := get_good (some ⟨g, 0, none⟩) (14 + n) (14 + n) (fb d s k zs) u1 (by rw [FL.out, HL.out]) (by omega) (by omega) HB.out HG
  unfold OneFrame at K2
  rw [P1.out, P2.out, P3.out, P4.out, FL.out, HL.out, show 14 + n - 14 = n by omega] at K2
  replace K2 := veil K2
  have VY := veil Y3
  have Z6 := veil z6_macs
  clear K q Y1 Y2 Y3 hu HG b0 hri hrn
  generalize hz6 : z6 = z at *
  replace hz6 := veil hz6
  unfold zf at hZ
  subst hZ
  go_wp2_with (refine wpList_store_of rfl _ _ rfl rfl rfl T.out ?_)
  generalize w2.heap.size = g2 at *
  clear T hzl
  refine (K2.out).mono ?_
  rintro e w3 ⟨b, o, hb, ho, rfl, hrow, hrd, q⟩
  have Y1 := VY.out.got q hrow hb
  obtain ⟨Z, hZ⟩ : ∃ Z, Z = zf := ⟨_, rfl⟩
  have hzl : Hid (Z.toList.length = 14) := by rw [hZ]; exact rfl
  have Y2 := Y1.newA Z 27 (g := w3.heap.size) rfl
  have T := veil (frm_store (d := d) (s := s) (k := k) (v := .slice (some ⟨b, o, none⟩) n n) Y2 mem0 hzl.out HM.out rfl)
  have Y3 := Y2.put 0 rfl (fc d s k (.slice (some ⟨b, o, none⟩) n n))
  simp only [List.set_cons_zero] at Y3
  obtain ⟨u3, hu⟩ : ∃ u, (w3.alloc (.cells Z 27)).setRow w3.heap.size (fc d s k (.slice (some ⟨b, o, none⟩) n n)).toArray = u := ⟨_, rfl⟩
  have rd2 : Rd ((w3.alloc (.cells Z 27)).setRow w3.heap.size (fc d s k (.slice (some ⟨b, o, none⟩) n n)).toArray) (some ⟨b, o, none⟩) zs :=
    (hrd.keep (below_new w3 _)).setRow (fun a ha e => by injection ha with ha; subst ha; have := hrow.lt; simp only at e; omega) _
  rw [hu] at T Y3 rd2
  have b0 := (frmAt Y3 mem4 HM.out).body
  have L1 := veil (frmAt Y3 mem0 HM.out).all
  have L2 := veil (frmAt Y3 mem4 HM.out).all
  have S := veil (sameFrame_true d s k (some ⟨b, o, none⟩) A n n c zs u3 HM.out HL.out (by unfold maxLen; omega) rd2 (HR.out.keep Y3.below))
  have VY := veil Y3
  clear K2 q Y1 Y2 Y3 hu rd2 hrow hrd hb ho
  unfold zf at hZ
  subst hZ
  go_wp2_with (first
    | (refine wpList_store_of rfl _ _ rfl rfl rfl T.out ?_)
    | (refine wpList_load_of rfl _ rfl rfl L1.out ?_)
    | (refine wpList_load_of rfl _ rfl rfl L2.out ?_))
  refine (S.out).mono ?_
  rintro e w4 ⟨rfl, q⟩
  have VY := veil (VY.out.keep q)
  clear q S T L1 L2 b0
  go_wp2_with fail
  refine (lives_true _).mono ?_
  rintro e w5 ⟨rfl, q⟩
  have VY := veil (VY.out.keep q)
  clear q
  go_wp2_with fail
  go_ret
  exact ⟨rfl, VY.out.below⟩

set_option maxHeartbeats 4000000 in
theorem walk_long (d s : List Int) (k : Int) (A : Option Addr) (n c a : Nat) (zs : List Int) (w : World) (H : Fits w d s k A n c zs) (h1 : 1500 < n) (h2 : n ≤ 5000) :
    Calls Try.prog 5 #[fv d s k (.slice A n c), .int .u8 a] w fun e w' => e = .returned (.bool true) ∧ Below w.heap.size w w' := by
  have HR := veil (slc_rd H.slc).1
  have HL := veil H.len
  have HM := veil H.m
  have HB := veil (fb_byt H)
  have FL := veil (fb_len (k := k) (zs := zs) H.m)
  have KK := veil H.k
  have P1 := veil (fb_gd (k := k) (zs := zs) H.m)
  have P2 := veil (fb_gs (k := k) (zs := zs) H.m)
  have P3 := veil (fb_gk (zs := zs) H.m H.k)
  have P4 := veil (fb_body (k := k) (zs := zs) H.m)
  clear H
  obtain ⟨r, hr⟩ : ∃ r, a % 14 = r := ⟨_, rfl⟩
  have hr14 : r < 14 := by omega
  have hri : (a : Int) % 14 = (r : Int) := by omega
  have hrn : (r : Int) ≤ 14 + (n : Int) := by omega
  have hr0 : (0 : Int) ≤ (r : Int) := by omega
  clear hr
  have Y := (Lay.begin w).new (fc d s k (.slice A n c)) 27 (g := w.heap.size) rfl
  have b0 := (frmAt Y mem0 HM.out).body
  have L := veil (frmAt Y mem0 HM.out).all
  have K := veil (put_any d s k A n c zs _ HM.out KK.out HL.out (by omega) (HR.out.keep Y.below))
  have VY := veil Y
  clear Y
  have i1 : ¬ (5000 : Int) < (n : Int) := by omega
  have i2 : decide ((n : Int) ≤ 1500) = false := by simp; omega
  go_enter Try.func5, Try.ntmps5
  go_wp2_with (refine wpList_load_of rfl _ rfl rfl L.out ?_)
  refine (K.out).mono ?_
  rintro e w1 ⟨g, hg, rfl, r1, q⟩
  have Y1 := VY.out.got q r1 hg
  have b0 := (frmAt Y1 mem1 HM.out).body
  have K := veil (get_short (some ⟨g, 0, none⟩) r (14 + n) w1 hr14)
  have VY := veil Y1
  clear q r1 Y1 L hg
  go_wp2_with fail
  refine (K.out).mono ?_
  rintro e w2 ⟨rfl, q⟩
  have Y1 := VY.out.keep q
  obtain ⟨Z, hZ⟩ : ∃ Z, Z = zf := ⟨_, rfl⟩
  have hzl : Hid (Z.toList.length = 14) := by rw [hZ]; exact rfl
  have Y2 := Y1.newA Z 27 (g := w2.heap.size) rfl
  have T := veil (frm_store (d := z6) (s := z6) (k := 0) (v := .slice none 0 0) Y2 mem0 hzl.out z6_macs rfl)
  have Y3 := Y2.put 0 rfl (fc z6 z6 0 (.slice none 0 0))
  simp only [List.set_cons_zero] at Y3
  obtain ⟨u1, hu⟩ : ∃ u, (w2.alloc (.cells Z 27)).setRow w2.heap.size (fc z6 z6 0 (.slice none 0 0)).toArray = u := ⟨_, rfl⟩
  rw [hu] at T Y3
  have HG := (rd_lit (Y3.at mem1) rfl : Rd u1 (some ⟨g, 0, none⟩) (fb d s k zs))
  have K2 := veil (get_long (some ⟨g, 0, none⟩) (14 + n) (14 + n) u1 (by omega))
  have VY := veil Y3
  have Z6 := veil z6_macs
  clear K q Y1 Y2 Y3 hu HG b0 hri hrn
  generalize hz6 : z6 = z at *
  replace hz6 := veil hz6
  unfold zf at hZ
  subst hZ
  go_wp2_with (refine wpList_store_of rfl _ _ rfl rfl rfl T.out ?_)
  generalize w2.heap.size = g2 at *
  clear T hzl
  refine (K2.out).mono ?_
  rintro e w3 ⟨rfl, q⟩
  rw [hz6.out]
  have Y1 := VY.out.keep q
  obtain ⟨Z, hZ⟩ : ∃ Z, Z = zf := ⟨_, rfl⟩
  have hzl : Hid (Z.toList.length = 14) := by rw [hZ]; exact rfl
  have Y2 := Y1.newA Z 27 (g := w3.heap.size) rfl
  have T := veil (frm_store (d := z) (s := z) (k := 0) (v := .slice none 0 0) Y2 mem0 hzl.out Z6.out rfl)
  have Y3 := Y2.put 0 rfl (fc z z 0 (.slice none 0 0))
  simp only [List.set_cons_zero] at Y3
  obtain ⟨u3, hu⟩ : ∃ u, (w3.alloc (.cells Z 27)).setRow w3.heap.size (fc z z 0 (.slice none 0 0)).toArray = u := ⟨_, rfl⟩
  rw [hu] at T Y3
  have b0 := (frmAt Y3 mem3 HM.out).body
  have L1 := veil (frmAt Y3 mem0 Z6.out).all
  have S := veil (sameFrame_true z z 0 none none 0 0 0 [] u3 Z6.out rfl (by unfold maxLen; omega) (by simp [Rd]) (by simp [Rd]))
  have B := none_made
  rw [hz6.out] at B
  replace B := veil B
  have VY := veil Y3
  clear K2 q Y1 Y2 Y3 hu
  unfold zf at hZ
  subst hZ
  go_wp2_with (first
    | (refine wpList_store_of rfl _ _ rfl rfl rfl T.out ?_)
    | (refine wpList_load_of rfl _ rfl rfl L1.out ?_)
    | (refine wpList_build_of rfl _ _ rfl _ (by simp [Act.eval]) (B.out _) ?_))
  refine (S.out).mono ?_
  rintro e w4 ⟨rfl, q⟩
  have VY := veil (VY.out.keep q)
  clear q S T L1 B b0
  go_wp2_with fail
  refine (lives_true _).mono ?_
  rintro e w5 ⟨rfl, q⟩
  have VY := veil (VY.out.keep q)
  clear q
  go_wp2_with fail
  go_ret
  exact ⟨rfl, VY.out.below⟩

/-- more than are gone through -/
theorem walk_more (d s : List Int) (k : Int) (A : Option Addr) (n c : Nat) (a : Int) (w : World) (M : Macs d s) (h : 5000 < n) :
    Calls Try.prog 5 #[fv d s k (.slice A n c), .int .u8 a] w fun e w' => e = .returned (.bool true) ∧ Below w.heap.size w w' := by
  have Y := (Lay.begin w).new (fc d s k (.slice A n c)) 27 (g := w.heap.size) rfl
  have b0 := (frmAt Y mem0 M).body
  have VY := veil Y
  have i1 : (5000 : Int) < (n : Int) := by omega
  clear Y M
  go_enter Try.func5, Try.ntmps5
  go_wp2_with fail
  refine (lives_true _).mono ?_
  rintro e w1 ⟨rfl, q⟩
  have VY := veil (VY.out.keep q)
  clear q b0
  go_wp2_with fail
  go_ret
  exact ⟨rfl, VY.out.below⟩

theorem own : ownKnob Try.prog.godebug = none := by kernel_rfl
theorem readable : ∀ t ∈ Try.f5.params.toList, Try.prog.readableRec t = true ∧ t < Try.prog.types.size := by
  rw [Try.params5]
  intro t ht
  simp at ht
  rcases ht with rfl | rfl
  · exact ⟨by kernel_rfl, of_decide_eq_true (by kernel_rfl)⟩
  · exact ⟨by kernel_rfl, of_decide_eq_true (by kernel_rfl)⟩

set_option maxRecDepth 100000 in
theorem lifted (os : Os) (started : os.Started) (H : Type) (enc : TypeId × Value → H) :
    ReturnsInHanded {} Try.checked os 5 .any (Rows.ethersBackSpec.pre6 enc Try.prog Try.f5 Rows.ethersBackRow.domain false) (Rows.ethersBackSpec.post enc Try.prog Try.f5 false true false false) := by
  refine returnsInHanded_of_change_sized (C := Try.checked) own started (by kernel_rfl) Try.func5
    (ChangeSpec.witness6 (enc := enc) (C := Try.checked) false ⟨#[], #[.agg #[.int .u8 0, .int .u8 0, .int .u8 0, .int .u8 0, .int .u8 0, .int .u8 0, .int .u8 0, .int .u8 0, .int .u8 0, .int .u8 0, .int .u8 0, .int .u8 0, .int .u16 0, .slice none 0 0], .int .u8 0], []⟩ 8 (by kernel_rfl) (by kernel_rfl) (by kernel_rfl) (by kernel_rfl)) ?_
  intro W base args ds gs before hval0 hW _ hsz0 _
  have hval : ∀ (j : Nat) t v, Try.f5.params[j]? = some t → args[j]? = some v → Value.okWide Try.prog W .any base t v := hval0
  have hW' := hW
  obtain ⟨p, q, hA0, hV, rfl, _, _⟩ := hW
  have hA : DataW.TrodAll enc Try.prog W 0 (fun _ => true) true Try.f5.params.toList args.toList ds p := hA0
  rw [Try.params5] at hA hval
  obtain ⟨v0, vs0, d0, ds0, p0, q0, hargs, rfl, rfl, h0, r0⟩ := trodAll_cons hA
  obtain ⟨v1, vs1, d1, ds1, p1, q1, rfl, rfl, rfl, h1, r1⟩ := trodAll_cons r0
  obtain ⟨rfl, rfl, rfl⟩ := trodAll_nil r1
  obtain rfl : args = #[v0, v1] := by cases args; simp_all
  obtain ⟨rfl, rfl⟩ := trodVars_none hV
  obtain ⟨d, s, k, A, n, c, zs, rfl, F⟩ := open_frame (hval 0 27 v0 rfl rfl) (opens_arg h0 (slim_of hsz0 (j := 0) rfl rfl))
  obtain ⟨a1, rfl, rfl, rfl, w1⟩ := open_int Try.underlying5 (hval 1 5 v1 rfl rfl) h1
  have hw : Calls Try.prog 5 #[fv d s k (.slice A n c), .int .u8 a1] W fun e w' => e = .returned (.bool true) ∧ Below W.heap.size W w' := by
    have ha0 := (u8_of w1).1
    obtain ⟨a, rfl⟩ := Int.eq_ofNat_of_zero_le ha0
    rcases (by omega : 5000 < n ∨ (1500 < n ∧ n ≤ 5000) ∨ n ≤ 1500) with h | ⟨h1, h2⟩ | h
    · exact walk_more d s k A n c a W F.m h
    · exact walk_long d s k A n c a zs W F h1 h2
    · exact walk_good d s k A n c a zs W F h
  refine hw.mono fun e W' ⟨he, hb⟩ => ?_
  subst he
  exact ⟨_, rfl, law_post (by kernel_rfl) rfl rfl Try.underlying4 readable hW' rfl hb⟩

/-- EthersBack, as given -/
theorem holds : Rows.EthersBackSaid :=
  OpenClaim.holds_of_wide 5 Try.f5 rfl rfl rfl rfl rfl rfl rfl ⟨rfl, rfl, rfl, rfl, rfl⟩ rfl rfl rfl rfl rfl (by kernel_rfl) Try.func5 (by kernel_rfl)
    (of_decide_eq_true (by kernel_rfl)) (by unfold Func.isWrapper; first | (rw [if_pos (by decide +kernel)]; kernel_rfl) | (rw [if_neg (by decide +kernel)]; exact ⟨rfl, rfl⟩))
    (fun os started H enc _ => lifted os started H enc)

#print axioms holds
end Go.Proofs.Ytihhbniceiammaa.ethersBack
