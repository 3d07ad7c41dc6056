/-
  DrawsOrder: words come in the order in which they were taken, however they are fed and taken in between; never do more than 256 wait, and none is refused while fewer do: the law returns true for every input, and its arguments read as before.
  Conditions: none.
-/
import Derived.Test.YtmjpmagfbiocnaaDrwP
import Derived.Test.YtmjpmagfbiocnaaSameBW
namespace Go.Proofs.Ytmjpmagfbiocnaa.drawsOrder
open Go.ChangeShapes Go.WideShapes Go.ChangeAt Go.RowKit Go.Proofs.Ytmjpmagfbiocnaa.W32

/-- the words taken in so far at I, those taken out at O, the others wait -/
def Fit (w0 wr : World) (g : Nat) (I O : Option Addr) (mI ic mO oc Q : Nat) (l : List Deed) (j : Nat) : Prop :=
  ∃ xs ys q : List Int, xs.length = mI ∧ ys.length = mO ∧ q.length = Q ∧ xs = ys ++ q ∧ mI ≤ tot (l.take j) ∧ Par w0 wr g (.slice I mI ic) (.slice O mO oc) q xs ys

set_option maxRecDepth 20000 in
set_option maxHeartbeats 2000000 in
theorem walk (A : Option Addr) (n c : Nat) (l : List Deed) (w : World) (hl : l.length = n) (hn : n ≤ 140737488351232) (h : Deeds w A l) :
    Calls Try.prog 5 #[.slice A n c] w fun e w' => e = .returned (.bool true) ∧ Below w.heap.size w w' := by
  have HD := veil h
  have HL := veil hl
  have HG := veil (great_any A n c l w hl hn h)
  clear h hl
  go_enter Try.func5, Try.ntmps5
  go_wp2_with fail
  refine (HG.out).mono ?_
  rintro e w1 ⟨b, rfl, rfl, hb⟩
  clear HG
  cases b with
  | true =>
    go_wp2_with fail
    refine (lives_true _).mono ?_
    rintro e w9 ⟨rfl, q9⟩
    go_wp2_with fail
    go_ret
    exact ⟨rfl, q9⟩
  | false =>
    have HT := veil (hb rfl)
    clear hb
    go_wp2_with fail
    have W0 := veil (wd_new w)
    have B0 := veil (below_new w (.cells (fresh true) 43))
    refine (new_any w).mono ?_
    rintro e w0 ⟨rfl, h0⟩
    rw [h0] at W0 B0
    obtain ⟨g, hg⟩ : ∃ g, w.heap.size = g := ⟨_, rfl⟩
    have LE : Hid (w.heap.size ≤ g) := by show _ ≤ _; omega
    rw [hg] at W0 ⊢
    clear h0 hg
    go_wp2_with fail
    go_loopw [4, 5, 6] (fun s4 s5 i wr => ∃ (j : Nat) (I O : Option Addr) (ic mO oc Q : Nat), j ≤ n ∧ i = .int .i64 j ∧ s4 = .slice I (mO + Q) ic ∧ s5 = .slice O mO oc ∧ Q ≤ 256 ∧ mO + Q ≤ 2000 ∧ Hid (Fit w wr g I O (mO + Q) ic mO oc Q l j)) (fun _ _ i _ => n - (intOf i).toNat)
    case atStart => exact ⟨0, none, none, 0, 0, 0, 0, Nat.zero_le _, rfl, rfl, rfl, by omega, by omega, [], [], [], rfl, rfl, rfl, rfl, by simp, par_new W0.out B0.out LE.out⟩
    case round =>
      obtain ⟨j, I, O, ic, mO, oc, Q, hj, rfl, rfl, rfl, hQ, hM, hF⟩ := hrel
      obtain ⟨xs, ys, q, e1, e2, e3, e4, e5, hP⟩ := hF.out
      have HP := veil hP
      have E1 := veil e1
      have E2 := veil e2
      have E3 := veil e3
      have E4 := veil e4
      have E5 := veil e5
      clear e1 e2 e3 e4 e5 hP hF
      by_cases hlt : j < n
      · obtain ⟨a, rfl, hx0⟩ := HD.out j (by rw [HL.out]; exact hlt)
        have hx := hx0.keep HP.out.bel
        have FAR := veil (hx0.far LE.out)
        have HX0 := veil hx0
        clear hx0
        have c0 := hx.c0
        have c1 := hx.c1
        have k0 := hx.kd0
        have k1 := hx.kd1
        have HX := veil hx
        have HM := veil (tot_one l j (by rw [HL.out]; exact hlt))
        have HN := veil (tot_next l j (by rw [HL.out]; exact hlt))
        have HN' := veil (tot_le l (j + 1))
        clear hx
        generalize l.getD j default = x at *
        obtain ⟨m, hm⟩ : ∃ m, x.zs.length = m := ⟨_, rfl⟩
        rw [hm] at c1 HM HN
        have hm0 : m < 2000 := by have := HM.out; have := HT.out; omega
        have Hm := veil hm
        clear hm
        by_cases hk : x.kd % 3 = 0
        · have hkk : (x.kd % 3 == 0) = true := beq_iff_eq.2 hk
          clear hk
          go_wp2_with fail
          obtain ⟨k, hkd⟩ : ∃ k, min m (256 - Q) = k := ⟨_, rfl⟩
          have km : k ≤ m := by omega
          have kq : Q + k ≤ 256 := by omega
          have kc : (m ≤ 256 - Q ∧ k = m) ∨ (256 - Q < m ∧ k = 256 - Q) := by omega
          refine (feed_any _ m x.c HP.out.wd HX.out.rd FAR.out HX.out.byt Hm.out (by rw [← Hm.out]; exact HX.out.cap)).mono ?_
          rintro e w1 ⟨rfl, h1, g1⟩
          rw [E3.out] at h1 ⊢
          rw [hkd]
          have eT : x.zs.take (256 - Q) = x.zs.take k := by
            rcases kc with ⟨h1, h2⟩ | ⟨h1, h2⟩
            · rw [List.take_of_length_le (by rw [Hm.out]; exact h1), List.take_of_length_le (by rw [Hm.out]; omega)]
            · rw [h2]
          rw [eT] at h1
          have P1 := HP.out.turn h1 g1
          have hx1 := HX0.out.keep P1.bel
          have c1' := hx1.c1
          rw [Hm.out] at c1'
          have lk : (x.zs.take k).length = k := by simp [Hm.out]; omega
          obtain ⟨v', w2, hrun, P2⟩ := P1.add 28 (.slice x.A k x.c) (x.zs.take k) (hx1.slc k (by rw [Hm.out]; exact km)) (by rw [E1.out, lk]; omega)
          obtain ⟨I', ic', rfl⟩ := own_is P2.ov
          have lI : (xs ++ x.zs.take k).length = mO + (Q + k) := by simp [E1.out, lk]; omega
          rw [lI] at hrun P2
          have HR := veil hrun
          have HP2 := veil P2
          have HLen := veil (len_eq P2.wd (L := Q + k) (by simp [E3.out, lk]))
          have LK := veil lk
          have LI := veil lI
          have kx : k ≤ x.c := by have := HX.out.cap; rw [Hm.out] at this; omega
          clear hrun P2 hx1 P1 h1 g1 eT hkd lk lI c0 c1 HX hkk k0 k1
          rcases kc with ⟨kc1, kc2⟩ | ⟨kc1, kc2⟩
          · subst kc2
            go_wp2_with (first | (at_builtin; refine wpList_append_run rfl (.tmp 49) (.tmp 56) rfl rfl rfl HR.out ?_))
            refine (HLen.out).mono ?_
            rintro e w9 ⟨rfl, rfl⟩
            go_wp2_with fail
            go_roundw
            case rel => exact ⟨j + 1, I', O, ic', mO, oc, Q + k, by omega, by go_num, rfl, rfl, kq, by have := HN.out; have := HN'.out; have := HT.out; have := E5.out; omega, xs ++ x.zs.take k, ys, q ++ x.zs.take k, LI.out, E2.out, by rw [List.length_append, E3.out, LK.out], by rw [E4.out, List.append_assoc], by have := HN.out; have := E5.out; omega, HP2.out⟩
            case measure => simp [intOf]; omega
          · have kc3 : k + Q = 256 := by omega
            clear kc2
            go_wp2_with (first | (at_builtin; refine wpList_append_run rfl (.tmp 49) (.tmp 56) rfl rfl rfl HR.out ?_))
            refine (HLen.out).mono ?_
            rintro e w9 ⟨rfl, rfl⟩
            go_wp2_with fail
            go_roundw
            case rel => exact ⟨j + 1, I', O, ic', mO, oc, Q + k, by omega, by go_num, rfl, rfl, kq, by have := HN.out; have := HN'.out; have := HT.out; have := E5.out; omega, xs ++ x.zs.take k, ys, q ++ x.zs.take k, LI.out, E2.out, by rw [List.length_append, E3.out, LK.out], by rw [E4.out, List.append_assoc], by have := HN.out; have := E5.out; omega, HP2.out⟩
            case measure => simp [intOf]; omega
        · have hkk : (x.kd % 3 == 0) = false := beq_eq_false_iff_ne.2 hk
          clear hk c1
          match q, Q with
          | [], 0 =>
            clear HX HX0 FAR
            go_wp2_with fail
            refine (next_none HP.out.wd).mono ?_
            rintro e w9 ⟨rfl, rfl⟩
            go_wp2_with fail
            refine (len_any HP.out.wd).mono ?_
            rintro e w9 ⟨rfl, rfl⟩
            go_wp2_with fail
            go_roundw
            case rel => exact ⟨j + 1, I, O, ic, mO, oc, 0, by omega, by go_num, rfl, rfl, by omega, by omega, xs, ys, [], E1.out, E2.out, rfl, E4.out, by have := HN.out; have := E5.out; omega, HP.out⟩
            case measure => simp [intOf]; omega
          | z :: t, R + 1 =>
            clear HX HX0 FAR
            go_wp2_with fail
            refine (next_cons HP.out.wd).mono ?_
            rintro e w1 ⟨rfl, h1, g1⟩
            have PA := ((HP.out.turn h1 g1).keep (below_new w1 (.cells #[.int .u32 z] 31))).swap
            obtain ⟨v', w2, hrun, P2⟩ := PA.add 28 (.slice (some ⟨w1.heap.size, 0, none⟩) 1 1) [z] lit_slc (by have := E2.out; simp; omega)
            obtain ⟨O', oc', rfl⟩ := own_is P2.ov
            have lO : (ys ++ [z]).length = mO + 1 := by rw [List.length_append, E2.out]; rfl
            rw [lO] at hrun P2
            have HR := veil hrun
            have HP2 := veil P2.swap
            have LO := veil lO
            clear hrun P2 PA h1 g1 lO
            go_wp2_with (first | (at_builtin; refine wpList_append_run rfl (.tmp 63) (.tmp 66) rfl rfl rfl HR.out ?_))
            refine (len_eq HP2.out.wd (L := R) (by have := E3.out; simpa using this)).mono ?_
            rintro e w9 ⟨rfl, rfl⟩
            go_wp2_with fail
            go_roundw
            case rel =>
              have eM : mO + 1 + R = mO + (R + 1) := by omega
              exact ⟨j + 1, I, O', ic, mO + 1, oc', R, by omega, by go_num, by rw [eM], rfl, by omega, by omega, by
                rw [eM]
                exact ⟨xs, ys ++ [z], t, E1.out, LO.out, by have := E3.out; simpa using this, by rw [E4.out]; simp, by have := HN.out; have := E5.out; omega, HP2.out⟩⟩
            case measure => simp [intOf]; omega
          | [], R + 1 => have := E3.out; simp at this
          | z :: t, 0 => have := E3.out; simp at this
      · go_wp2_with fail
        have hF0 : Hid (Fit w wr g I O (mO + Q) ic mO oc Q l j) := ⟨xs, ys, q, E1.out, E2.out, E3.out, E4.out, E5.out, HP.out⟩
        clear E1 E2 E3 E4 E5 HP
        obtain ⟨M, hMd⟩ : ∃ M, mO + Q = M := ⟨_, rfl⟩
        rw [hMd] at hF0 ⊢
        go_loopw [5] (fun s5 wr => ∃ (O : Option Addr) (m oc R : Nat), s5 = .slice O m oc ∧ m + R = M ∧ Hid (Fit w wr g I O M ic m oc R l j)) (fun s _ => match s with | .slice _ m _ => M - m | _ => 0)
        case atStart => exact ⟨O, mO, oc, Q, rfl, hMd, hF0⟩
        case round =>
          obtain ⟨O, m, oc, R, rfl, hR, hF⟩ := hrel
          obtain ⟨xs, ys, q, e1, e2, e3, e4, e5, hP⟩ := hF.out
          have HP := veil hP
          have E1 := veil e1
          have E2 := veil e2
          have E3 := veil e3
          have E4 := veil e4
          have E5 := veil e5
          clear e1 e2 e3 e4 e5 hP hF hF0
          have hM2 : M ≤ 2000 := by omega
          match q, R with
          | [], 0 =>
            have e0 : m = M := by omega
            subst e0
            have e4 : xs = ys := by have := E4.out; simpa using this
            have K := veil (sameWords_eq I O m ic oc xs wr E1.out (by unfold maxLen; omega) (slc_rd HP.out.ov.slc).1 (by rw [e4]; exact (slc_rd HP.out.ou.slc).1))
            clear e4
            go_wp2_with fail
            refine (K.out).mono ?_
            rintro e w1 ⟨rfl, hs⟩
            have HP1 := veil (HP.out.keep (below_still (Below.refl _ _) hs))
            clear hs K HP
            go_wp2_with fail
            refine (next_none HP1.out.wd).mono ?_
            rintro e w9 ⟨rfl, rfl⟩
            go_wp2_with fail
            refine (lives_true _).mono ?_
            rintro e w9 ⟨rfl, q9⟩
            have b9 := HP1.out.bel.trans (q9.mono HP1.out.bel.size)
            go_wp2_with fail
            go_ret
            exact ⟨rfl, b9⟩
          | z :: t, R + 1 =>
            go_wp2_with fail
            refine (next_cons HP.out.wd).mono ?_
            rintro e w1 ⟨rfl, h1, g1⟩
            have PA := ((HP.out.turn h1 g1).keep (below_new w1 (.cells #[.int .u32 z] 31))).swap
            obtain ⟨v', w2, hrun, P2⟩ := PA.add 28 (.slice (some ⟨w1.heap.size, 0, none⟩) 1 1) [z] lit_slc (by have := E2.out; simp; omega)
            obtain ⟨O', oc', rfl⟩ := own_is P2.ov
            have lO : (ys ++ [z]).length = m + 1 := by rw [List.length_append, E2.out]; rfl
            rw [lO] at hrun P2
            have HR := veil hrun
            have HP2 := veil P2.swap
            have LO := veil lO
            clear hrun P2 PA h1 g1 lO
            go_wp2_with (first | (at_builtin; refine wpList_append_run rfl (.tmp 84) (.tmp 87) rfl rfl rfl HR.out ?_))
            go_roundw
            case rel => exact ⟨O', m + 1, oc', R, rfl, by omega, xs, ys ++ [z], t, E1.out, LO.out, by have := E3.out; simpa using this, by rw [E4.out]; simp, E5.out, HP2.out⟩
            case measure => simp; omega
          | [], R + 1 => have := E3.out; simp at this
          | z :: t, 0 => have := E3.out; simp at this


theorem own : ownKnob Try.prog.godebug = none := by kernel_rfl
theorem readable : ∀ t ∈ Try.f5.params.toList, Try.prog.readableRec t = true ∧ t < Try.prog.types.size := by
  rw [Try.params5]
  intro t ht
  simp at ht
  subst ht
  exact ⟨by kernel_rfl, of_decide_eq_true (by kernel_rfl)⟩

set_option maxRecDepth 100000 in
theorem lifted (os : Os) (started : os.Started) (H : Type) (enc : TypeId × Value → H) :
    ReturnsInHanded {} Try.checked os 5 .any (Rows.drawsOrderSpec.pre6 enc Try.prog Try.f5 Rows.drawsOrderRow.domain false) (Rows.drawsOrderSpec.post enc Try.prog Try.f5 false true false false) := by
  refine returnsInHanded_of_change_sized (C := Try.checked) own started (by kernel_rfl) Try.func5
    (ChangeSpec.witness6 (enc := enc) (C := Try.checked) false ⟨#[], #[.slice none 0 0], []⟩ 8 (by kernel_rfl) (by kernel_rfl) (by kernel_rfl) (by kernel_rfl)) ?_
  intro W base args ds gs before hval0 hW _ hsz0 _
  have hval : ∀ (j : Nat) t v, Try.f5.params[j]? = some t → args[j]? = some v → Value.okWide Try.prog W .any base t v := hval0
  have hW' := hW
  obtain ⟨p, q, hA0, hV, rfl, _, _⟩ := hW
  have hA : DataW.TrodAll enc Try.prog W 0 (fun _ => true) true Try.f5.params.toList args.toList ds p := hA0
  rw [Try.params5] at hA hval
  obtain ⟨v0, vs0, d0, ds0, p0, q0, hargs, rfl, rfl, h0, r0⟩ := trodAll_cons hA
  obtain ⟨rfl, rfl, rfl⟩ := trodAll_nil r0
  obtain rfl : args = #[v0] := by cases args; simp_all
  obtain ⟨rfl, rfl⟩ := trodVars_none hV
  have ho := opens_arg h0 (slim_of hsz0 (j := 0) (by rw [Try.params5]; rfl) rfl)
  obtain ⟨A0, n0, c0, rfl⟩ := okWide_slice Try.underlying22 (hval 0 22 v0 rfl rfl)
  obtain ⟨A, c, l, e, _, hn, hD⟩ := open_acts ho
  simp [Value.cells] at e
  obtain ⟨rfl, rfl, rfl⟩ := e
  have hw : Calls Try.prog 5 #[.slice A0 l.length c0] W fun e w' => e = .returned (.bool true) ∧ Below W.heap.size W w' := by
    exact walk A0 l.length c0 l W rfl hn hD
  refine hw.mono fun e W' ⟨he, hb⟩ => ?_
  subst he
  exact ⟨_, rfl, law_post (by kernel_rfl) rfl rfl Try.underlying4 readable hW' rfl hb⟩

/-- DrawsOrder, as given -/
theorem holds : Rows.DrawsOrderSaid :=
  OpenClaim.holds_of_wide 5 Try.f5 rfl rfl rfl rfl rfl rfl rfl ⟨rfl, rfl, rfl, rfl, rfl⟩ rfl rfl rfl rfl rfl (by kernel_rfl) Try.func5 (by kernel_rfl)
    (of_decide_eq_true (by kernel_rfl)) (by unfold Func.isWrapper; first | (rw [if_pos (by decide +kernel)]; kernel_rfl) | (rw [if_neg (by decide +kernel)]; exact ⟨rfl, rfl⟩))
    (fun os started H enc _ => lifted os started H enc)

#print axioms holds
end Go.Proofs.Ytmjpmagfbiocnaa.drawsOrder
