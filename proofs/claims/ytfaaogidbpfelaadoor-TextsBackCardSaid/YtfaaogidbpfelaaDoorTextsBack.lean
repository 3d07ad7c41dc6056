/-
  TextsBack: the text of an address is one, of it; of two addresses they are the same just if these are; it has no capital digits, and no needless nought ahead of a group's digits: the law returns true for every input, and its arguments read as before; the library's tables are tied to the program's text.
  Conditions: none.
-/
import Derived.Test.YtfaaogidbpfelaaDoorTxtW
import Derived.Test.YtfaaogidbpfelaaDoorTie
import Derived.Test.YtfaaogidbpfelaaDoorCards
import Derived.SevenTiedAt
import Derived.Deep.CutRange
namespace Go.Proofs.YtfaaogidbpfelaaDoor.textsBack
open Go.ChangeShapes Go.WideShapes Go.ChangeAt Go.RowKit Go.Proofs.YtfaaogidbpfelaaDoor.Tx Go.Proofs.YtfaaogidbpfelaaDoor.Ad

theorem scan_at {s : Str} {i : Nat} {b : Bool} (h : scan b (s.drop i)) (hi : i < s.length) :
    ((48 ≤ (s.getD i 0).toNat ∧ (s.getD i 0).toNat ≤ 57) ∨ (97 ≤ (s.getD i 0).toNat ∧ (s.getD i 0).toNat ≤ 102) ∨ (s.getD i 0).toNat = 58) ∧
    ((s.getD i 0).toNat = 48 → b = true → i + 1 < s.length → (s.getD (i + 1) 0).toNat = 58) ∧ scan (decide ((s.getD i 0).toNat = 58)) (s.drop (i + 1)) := by
  have e : s.drop i = s.getD i 0 :: s.drop (i + 1) := by
    rw [List.drop_eq_getElem_cons hi]
    simp only [List.getD, List.getElem?_eq_getElem hi, Option.getD_some]
  rw [e] at h
  generalize s.getD i 0 = x at *
  obtain ⟨h1, h2, h3⟩ := h
  refine ⟨?_, ?_, ?_⟩
  · rcases h1 with ⟨h1, h4⟩ | rfl
    · unfold dig at h1
      split at h1
      · left; assumption
      · split at h1
        · right; left; assumption
        · omega
    · right; right; rfl
  · intro hx hb hlt
    have := h2 (UInt8.toNat_inj.1 hx) hb
    have e2 : (s.drop (i + 1)).head? = some (s.getD (i + 1) 0) := by
      rw [List.head?_drop]
      simp only [List.getD, List.getElem?_eq_getElem hlt, Option.getD_some]
    rw [e2] at this
    rcases this with h | h
    · cases h
    · injection h with h
      rw [h]
      rfl
  · have : (x == 58) = decide (x.toNat = 58) := by
      by_cases q : x = 58
      · subst q; rfl
      · have : ¬ x.toNat = 58 := fun e => q (UInt8.toNat_inj.1 e)
        simp [q, this]
    rw [← this]
    exact h3

set_option maxRecDepth 100000 in
set_option maxHeartbeats 8000000 in
theorem walk (xs ys : List Int) (w : World) (hx : Ok xs) (hy : Ok ys) (ht : Tw w) : Calls Tryd.prog 5 #[av xs, av ys] w fun e w' => e = .returned (.bool true) ∧ Below w.heap.size w w' := by
  have hl := put_len (grp_len xs)
  have hsc := scan_put (grp_lt hx)
  obtain ⟨z, hz⟩ : ∃ z, decide (xs = ys) = z := ⟨_, rfl⟩
  have hzz : decide (put (grp xs) = put (grp ys)) = z := by
    rw [← hz]
    by_cases h : xs = ys
    · subst h
      simp
    · have : ¬ put (grp xs) = put (grp ys) := fun e => h (by rw [← bys_grp hx, ← bys_grp hy, put_inj (grp_len xs) (grp_lt hx) (grp_len ys) (grp_lt hy) e])
      simp [h, this]
  have K1 := veil (fun v (h : Tw v) => put_any xs v hx h.db)
  have K2 := veil (fun v (h : Tw v) => put_any ys v hy h.db)
  have K3 := veil (fun v (h : Tw v) => is_true (put (grp xs)) xs v hx (by omega) h.mx (get_put (grp_len xs) (grp_lt hx)))
  have E1 := eq_lists (put (grp xs)) (put (grp ys)) hzz
  have E2 := fun u => eql_any u hx.len hy.len hz
  generalize put (grp xs) = s at *
  generalize put (grp ys) = t at *
  have M := veil (((Bt.begin ht).new xs 23 rfl).new ys 23 (g := w.heap.size + 1) (by simp))
  have HX := veil hx.len
  have HY := veil hy.len
  have HS := veil hsc
  have hsz := bs_size s
  obtain ⟨n, hn⟩ : ∃ n, s.length = n := ⟨_, rfl⟩
  rw [hn] at hl hsz
  have HN := veil hn
  clear hx hy ht hz hzz hsc hn
  go_enter Tryd.func5, Tryd.ntmps5
  go_wp2_with (refine wpList_load_of rfl _ rfl rfl (M.out.load mem1 HX.out) ?_)
  generalize (w.alloc (.cells (bv xs).toArray 23)).alloc (.cells (bv ys).toArray 23) = w0 at *
  refine (K1.out _ M.out.tw).mono ?_
  rintro e w1 ⟨rfl, q⟩
  have M := veil (M.out.keep q)
  clear q K1
  go_wp2_with (refine wpList_load_of rfl _ rfl rfl (M.out.load mem0 HY.out) ?_)
  refine (K2.out _ M.out.tw).mono ?_
  rintro e w2 ⟨rfl, q⟩
  have M := veil (M.out.keep q)
  clear q K2
  go_wp2_with (refine wpList_load_of rfl _ rfl rfl (M.out.load mem1 HX.out) ?_)
  refine (K3.out _ M.out.tw).mono ?_
  rintro e w3 ⟨rfl, q⟩
  have M := veil (M.out.keep q)
  clear q K3
  have l1 : ¬ (n : Int) < 2 := by omega
  have l2 : ¬ (39 : Int) < (n : Int) := by omega
  have LX := veil (M.out.load mem1 HX.out)
  have LY := veil (M.out.load mem0 HY.out)
  go_wp2_with (first
    | (refine wpList_load_of rfl _ rfl rfl LX.out ?_)
    | (refine wpList_load_of rfl _ rfl rfl LY.out ?_))
  clear E1 E2 LX LY l1 l2
  go_loopw [7] (fun i wx => ∃ j : Nat, i = .int .i64 j ∧ j ≤ n ∧ Hid (scan (decide (j = 0) || decide ((s.getD (j - 1) 0).toNat = 58)) (s.drop j)) ∧ w3 = wx) (fun i _ => n - (intOf i).toNat)
  case atStart => exact ⟨0, rfl, by omega, by unfold Hid; simpa using HS.out, rfl⟩
  case round =>
    obtain ⟨j, rfl, hj, hR, rfl⟩ := hrel
    clear HS
    by_cases hlt : j < n
    · obtain ⟨hk, h48, hnx⟩ := scan_at hR.out (by rw [HN.out]; exact hlt)
      have hix := fun u => index_str s (i := j) (by rw [HN.out]; exact hlt) u
      have HR2 : Hid (scan (decide (j + 1 = 0) || decide ((s.getD (j + 1 - 1) 0).toNat = 58)) (s.drop (j + 1))) := by
        unfold Hid
        simpa using hnx
      have hj' : (j : Int) < n := by omega
      clear hR hnx
      obtain ⟨n1, hn1⟩ : ∃ n1, n = n1 + 1 := ⟨n - 1, by omega⟩
      have s3 : IntKind.i64.wrap ((n : Int) - 1) = (n1 : Int) := by rw [IntWalk.i64_in _ (by omega)]; omega
      have HN1 := veil hn1
      clear hn1
      obtain ⟨d, hd⟩ : ∃ d, (s.getD j 0).toNat = d := ⟨_, rfl⟩
      rw [hd] at hk hix h48
      have s2 : IntKind.i64.wrap ((j : Int) + 1) = ((j + 1 : Nat) : Int) := by rw [IntWalk.i64_in _ (by omega)]; omega
      have hk3 : d = 58 ∨ (48 ≤ d ∧ d ≤ 57) ∨ (97 ≤ d ∧ d ≤ 102) := by omega
      obtain ⟨D, hD⟩ : ∃ D : Bool, D = decide (d ≠ 58) := ⟨_, rfl⟩
      obtain ⟨p, hp⟩ : ∃ p, (s.getD (j - 1) 0).toNat = p := ⟨_, rfl⟩
      obtain ⟨e, hee⟩ : ∃ e, (s.getD (j + 1) 0).toNat = e := ⟨_, rfl⟩
      rw [hp] at h48
      rw [hee] at h48
      obtain ⟨B, hB⟩ : ∃ B : Bool, B = (decide (j = 0) || decide (p = 58)) := ⟨_, rfl⟩
      obtain ⟨E, hE⟩ : ∃ E : Bool, E = (decide (j = n1) || decide (e = 58)) := ⟨_, rfl⟩
      rw [← hB] at h48
      have HK := veil hk3
      have H48 := veil h48
      have HD := veil hD
      have HB := veil hB
      have HE := veil hE
      have HP := veil hp
      have HEE := veil hee
      have HIX := veil hix
      clear hk hk3 h48 hD hB hE hp hee hix hd
      go_upto_region 8 with fail
      go_cut [8] from 38 to 105 (fun c wx => c = .bool D ∧ w3 = wx)
      case first =>
        have hix := HIX.out
        rcases HK.out with hk | hk | hk
        · subst hk
          go_wp2_with fail
          go_meet
          exact ⟨congrArg Value.bool (by rw [HD.out]; rfl), rfl⟩
        · have a1 : (48 : Int) ≤ (d : Int) := by omega
          have a2 : (d : Int) ≤ 57 := by omega
          go_wp2_with fail
          go_meet
          exact ⟨congrArg Value.bool (by rw [HD.out]; exact (decide_eq_true (by omega)).symm), rfl⟩
        · have a1 : (97 : Int) ≤ (d : Int) := by omega
          have a2 : (d : Int) ≤ 102 := by omega
          have a0 : (48 : Int) ≤ (d : Int) := by omega
          have a5 : ¬ (d : Int) ≤ 57 := by omega
          go_wp2_with fail
          go_meet
          exact ⟨congrArg Value.bool (by rw [HD.out]; exact (decide_eq_true (by omega)).symm), rfl⟩
      case rest =>
        obtain ⟨rfl, rfl⟩ := hcut
        go_upto_region 9 with fail
        go_cut [73] from 38 to 105 (fun c wx => c = .bool false ∧ w3 = wx)
        case first =>
          have hix := HIX.out
          cases hDD : D with
          | true =>
            subst hDD
            go_wp2_with fail
            go_meet
            exact ⟨rfl, rfl⟩
          | false =>
            obtain rfl : d = 58 := by
              have := HD.out
              rw [hDD] at this
              by_cases q : d = 58
              · exact q
              · simp [q] at this
            subst hDD
            go_wp2_with fail
            go_meet
            exact ⟨rfl, rfl⟩
        case rest =>
          obtain ⟨rfl, rfl⟩ := hcut
          go_upto_region 11 with fail
          go_cut [9] from 38 to 105 (fun c wx => c = .bool B ∧ w3 = wx)
          case first =>
            by_cases hf : j = 0
            · subst hf
              go_wp2_with fail
              go_meet
              exact ⟨congrArg Value.bool (by rw [HB.out]; rfl), rfl⟩
            · obtain ⟨j1, hj1⟩ : ∃ j1, j = j1 + 1 := ⟨j - 1, by omega⟩
              subst hj1
              have hip := fun u => index_str s (i := j1) (by rw [HN.out]; omega) u
              have e1 := HP.out
              rw [Nat.add_sub_cancel] at e1
              rw [e1] at hip
              clear e1
              have s1 : IntKind.i64.wrap (((j1 + 1 : Nat) : Int) - 1) = (j1 : Int) := by rw [IntWalk.i64_in _ (by omega)]; omega
              have f0 : ¬ ((j1 + 1 : Nat) : Int) = 0 := by omega
              by_cases hp58 : p = 58
              · subst hp58
                go_wp2_with fail
                go_meet
                exact ⟨congrArg Value.bool (by rw [HB.out]; simp), rfl⟩
              · have a6 : ¬ (p : Int) = 58 := by omega
                go_wp2_with fail
                go_meet
                exact ⟨congrArg Value.bool (by rw [HB.out]; simp [hp58]; try omega), rfl⟩
          case rest =>
            obtain ⟨rfl, rfl⟩ := hcut
            go_upto_region 12 with fail
            go_cut [10] from 38 to 105 (fun c wx => c = .bool E ∧ w3 = wx)
            case first =>
              by_cases he : j = n1
              · subst he
                go_wp2_with fail
                go_meet
                exact ⟨congrArg Value.bool (by rw [HE.out]; simp), rfl⟩
              · have le : ¬ (j : Int) = (n1 : Int) := by omega
                have hin := fun u => index_str s (i := j + 1) (by rw [HN.out]; have := HN1.out; omega) u
                rw [HEE.out] at hin
                obtain ⟨j2, hj2⟩ : ∃ j2, j + 1 = j2 := ⟨_, rfl⟩
                rw [hj2] at hin s2
                clear hj2
                by_cases he58 : e = 58
                · subst he58
                  go_wp2_with fail
                  go_meet
                  exact ⟨congrArg Value.bool (by rw [HE.out]; simp; try omega), rfl⟩
                · have a6 : ¬ (e : Int) = 58 := by omega
                  go_wp2_with fail
                  go_meet
                  exact ⟨congrArg Value.bool (by rw [HE.out]; simp [he, he58]; try omega), rfl⟩
            case rest =>
              obtain ⟨rfl, rfl⟩ := hcut
              go_upto_region 13 with fail
              go_cut [105] from 38 to 105 (fun c wx => c = .bool false ∧ w3 = wx)
              case first =>
                have hix := HIX.out
                by_cases h4 : d = 48
                · subst h4
                  cases hBB : B with
                  | false =>
                    subst hBB
                    go_wp2_with fail
                    go_meet
                    exact ⟨rfl, rfl⟩
                  | true =>
                    have hEE : E = true := by
                      rw [HE.out]
                      by_cases he : j = n1
                      · simp [he]
                      · have := H48.out rfl hBB (by rw [HN.out]; have := HN1.out; omega)
                        simp [this]
                    subst hBB
                    subst hEE
                    go_wp2_with fail
                    go_meet
                    exact ⟨rfl, rfl⟩
                · have a6 : ¬ (d : Int) = 48 := by omega
                  go_wp2_with fail
                  go_meet
                  exact ⟨rfl, rfl⟩
              case rest =>
                obtain ⟨rfl, rfl⟩ := hcut
                go_wp2_with fail
                go_roundw
                case rel => exact ⟨j + 1, by go_num, by omega, HR2.out, trivial⟩
                case measure => simp [intOf]; omega
    · obtain rfl : j = n := by omega
      have hj' : ¬ (j : Int) < j := by omega
      go_wp2_with fail
      refine (lives_true _ M.out.tw).mono ?_
      rintro e w4 ⟨rfl, q⟩
      have M := veil (M.out.keep q)
      clear q
      go_wp2_with fail
      go_ret
      exact ⟨rfl, M.out.below⟩

theorem own : ownKnob Tryd.prog.godebug = none := by kernel_rfl
theorem readable : ∀ t ∈ Tryd.f5.params.toList, Tryd.prog.readableRec t = true ∧ t < Tryd.prog.types.size := by
  rw [Tryd.params5]
  intro t ht
  simp at ht
  subst ht
  exact ⟨by kernel_rfl, of_decide_eq_true (by kernel_rfl)⟩

set_option maxRecDepth 100000 in
theorem lifted (os : Os) (started : os.Started) (H : Type) (enc : TypeId × Value → H) :
    ReturnsInHanded {} Tryd.checked os 5 .any (fun w args => (Rows.textsBackSpec.pre enc Tryd.prog Tryd.f5 [] false w args ∧ laidMetH Tryd.prog laid3 w) ∧ sizedMet enc Tryd.prog Tryd.f5 (OpenSpec.ofChange Rows.textsBackSpec) false w args)
      (Rows.textsBackSpec.post enc Tryd.prog Tryd.f5 false true false false) := by
  refine returns_shaped (C := Tryd.checked) (X := fun w _ => laidMetH Tryd.prog laid3 w) (fun _ _ _ hh h => h.of_heap hh) own started (by kernel_rfl) Tryd.func5
    (ChangeSpec.witness_shaped (enc := enc) (C := Tryd.checked) (os := os) (X := fun w _ => laidMetH Tryd.prog laid3 w) false (World.doorLaid Tryd.prog 2000 os) #[.agg #[.int .u8 0, .int .u8 0, .int .u8 0, .int .u8 0, .int .u8 0, .int .u8 0, .int .u8 0, .int .u8 0, .int .u8 0, .int .u8 0, .int .u8 0, .int .u8 0, .int .u8 0, .int .u8 0, .int .u8 0, .int .u8 0], .agg #[.int .u8 0, .int .u8 0, .int .u8 0, .int .u8 0, .int .u8 0, .int .u8 0, .int .u8 0, .int .u8 0, .int .u8 0, .int .u8 0, .int .u8 0, .int .u8 0, .int .u8 0, .int .u8 0, .int .u8 0, .int .u8 0]] 8 rfl (World.shaped_of_RefB (by kernel_rfl) (by kernel_rfl)) (by kernel_rfl) (by kernel_rfl) (by kernel_rfl) (door_met os _)) ?_
  intro W base args ds gs before hval0 hW hL hSh
  have hval : ∀ (j : Nat) t v, Tryd.f5.params[j]? = some t → args[j]? = some v → Value.okWide Tryd.prog W .any base t v := hval0
  have hW' := hW
  obtain ⟨p, q, hA0, hV, rfl, _, _⟩ := hW
  have hA : DataW.TrodAll enc Tryd.prog W 0 (fun _ => true) true Tryd.f5.params.toList args.toList ds p := hA0
  rw [Tryd.params5] at hA hval
  obtain ⟨v0, vs0, d0, ds0, p0, q0, hargs, rfl, rfl, h0, r0⟩ := trodAll_cons hA
  obtain ⟨v1, vs1, d1, ds1, p1, q1, rfl, rfl, rfl, h1, r1⟩ := trodAll_cons r0
  obtain ⟨rfl, rfl, rfl⟩ := trodAll_nil r1
  obtain rfl : args = #[v0, v1] := by cases args; simp_all
  obtain ⟨rfl, rfl⟩ := trodVars_none hV
  have hk := tw_of hL hSh
  obtain ⟨xs, rfl, hx⟩ := open_addr (hval 0 _ _ rfl rfl) h0
  obtain ⟨ys, rfl, hy⟩ := open_addr (hval 1 _ _ rfl rfl) h1
  have hw : Calls Tryd.prog 5 #[av xs, av ys] W fun e w' => e = .returned (.bool true) ∧ Below W.heap.size W w' := by
    exact walk xs ys W hx hy hk
  refine hw.mono fun e W' ⟨he, hb⟩ => ?_
  subst he
  exact ⟨_, rfl, law_post (by kernel_rfl) rfl rfl Tryd.underlying4 readable hW' rfl hb⟩

/-- TextsBack: the row, as given -/
theorem row : Rows.TextsBackSaid :=
  OpenClaim.holds_of_wide 5 Tryd.f5 rfl rfl rfl rfl rfl rfl rfl ⟨rfl, rfl, rfl, rfl, rfl⟩ rfl rfl rfl rfl rfl (by kernel_rfl) Tryd.func5 (by kernel_rfl)
    (of_decide_eq_true (by kernel_rfl)) (by unfold Func.isWrapper; first | (rw [if_pos (by decide +kernel)]; kernel_rfl) | (rw [if_neg (by decide +kernel)]; exact ⟨rfl, rfl⟩))
    (fun os started H enc _ => lifted os started H enc)

/-- TextsBack: the tied card, as given -/
theorem holds : Rows.TextsBackCardSaid :=
  Claim7.holds_tied_plain_at .later [] [.data, .data, .data] true Rows.textsBackCard.stood.harness false
    row (fun _ h => by cases h) (by kernel_rfl) (fun _ h => by cases h) textsBack_row_tie rfl ⟨rfl, rfl⟩ (by kernel_rfl) rfl
    (fun f fn hf hfn => by
      obtain rfl : f = 5 := Option.some.inj ((show Tryd.prog.funcNamed "sojourner/sojournerlaw07.TextsBack" = some 5 by kernel_rfl).symm.trans hf) |>.symm
      obtain rfl : fn = Tryd.f5 := (Option.some.inj (Tryd.func5.symm.trans hfn)).symm
      exact ⟨by kernel_rfl, fun j t ht => by
        rw [Tryd.params5] at ht
        have hm : t ∈ [23] := by simpa using Array.mem_of_getElem? ht
        have hall : ([23].all fun u => !Tryd.prog.wantsStandIn u) = true := by kernel_rfl
        exact (show Tryd.prog.wantsStandIn t = false by simpa using List.all_eq_true.1 hall t hm)⟩)
    (by kernel_rfl)

#print axioms holds
end Go.Proofs.YtfaaogidbpfelaaDoor.textsBack
