/-
  DrawsPlay: whatever is fed and taken, in whatever order, each word, how many were taken, and how many wait, is the chapter's; the words that were handed in stay, and are not kept: the law returns true for every input, and its arguments read as before.
  Conditions: none.
-/
import Derived.Test.YtmjpmagfbiocnaaDrwL
import Derived.Test.YtmjpmagfbiocnaaDrwG
import Derived.Test.YtmjpmagfbiocnaaDrwQ
import Derived.Deep.RegionHeld3
namespace Go.Proofs.Ytmjpmagfbiocnaa.drawsPlay
open Go.ChangeShapes Go.WideShapes Go.ChangeAt Go.RowKit Go.Proofs.Ytmjpmagfbiocnaa.W32

/-- both have the same words, Q of them -/
def Fit (w0 wr : World) (g r Q : Nat) : Prop := ∃ v q, q.length = Q ∧ Pl w0 wr g r v q q

set_option maxRecDepth 20000 in
set_option maxHeartbeats 4000000 in
theorem walk (A : Option Addr) (n c : Nat) (l : List Deed) (w : World) (hl : l.length = n) (hn : n ≤ 140737488351232) (h : Deeds w A l) :
    Calls Try.prog 3 #[.slice A n c] w fun e w' => e = .returned (.bool true) ∧ Below w.heap.size w w' := by
  have HD := veil h
  have HL := veil hl
  have HG := veil (great_any A n c l w hl hn h)
  clear h hl
  go_enter Try.func3, Try.ntmps3
  go_wp2_with fail
  refine (HG.out).mono ?_
  rintro e w1 ⟨b, rfl, rfl, hb⟩
  clear HG
  cases b with
  | true =>
    go_wp2_with fail
    refine (lives_true _).mono ?_
    rintro e w9 ⟨rfl, q9⟩
    go_wp2_with fail
    go_ret
    exact ⟨rfl, q9⟩
  | false =>
    have HT := veil (hb rfl)
    clear hb
    go_wp2_with fail
    have W0 := veil (wd_new w)
    have B0 := veil (below_new w (.cells (fresh true) 43))
    have Z0 : Hid ((w.alloc (.cells (fresh true) 43)).heap.size = w.heap.size + 1) := by show _ = _; simp
    refine (new_any w).mono ?_
    rintro e w0 ⟨rfl, h0⟩
    rw [h0] at W0 B0 Z0
    obtain ⟨g, hg⟩ : ∃ g, w.heap.size = g := ⟨_, rfl⟩
    clear h0
    go_wp2_with fail
    rw [Z0.out]
    have hF : Hid (Fit w (w0.alloc (.cells #[.slice none 0 0] 30)) w.heap.size (w.heap.size + 1) 0) := ⟨_, [], rfl, pl_new (W0.out.keep (below_new _ _)) (row_new Z0.out.symm) (by omega) (B0.out.trans ((below_new _ _).mono (by rw [Z0.out]; omega))) (Nat.le_refl _) (by omega)⟩
    generalize w0.alloc (.cells #[.slice none 0 0] 30) = w2 at *
    obtain ⟨r, hr⟩ : ∃ r, w.heap.size + 1 = r := ⟨_, rfl⟩
    rw [hr] at hF ⊢
    rw [hg] at hF
    clear hr hg W0 B0 Z0 w0
    go_loopw [5] (fun i wr => ∃ (j Q : Nat), j ≤ n ∧ i = .int .i64 j ∧ Q ≤ 256 ∧ Hid (Fit w wr g r Q)) (fun i _ => n - (intOf i).toNat)
    case atStart => exact ⟨0, 0, Nat.zero_le _, rfl, by omega, hF⟩
    case round =>
      obtain ⟨j, Q, hj, rfl, hQ, hF⟩ := hrel
      obtain ⟨v, q, e1, hP⟩ := hF.out
      have HP := veil hP
      have E1 := veil e1
      clear e1 hP hF
      by_cases hlt : j < n
      · obtain ⟨a, rfl, hx0⟩ := HD.out j (by rw [HL.out]; exact hlt)
        have hx := hx0.keep HP.out.bel
        have FAR := veil (hx0.far HP.out.lg)
        have c0 := hx.c0
        have c1 := hx.c1
        have k0 := hx.kd0
        have k1 := hx.kd1
        have HX := veil hx
        have HX0 := veil hx0
        have HM := veil (tot_one l j (by rw [HL.out]; exact hlt))
        clear hx hx0
        generalize l.getD j default = x at *
        obtain ⟨m, hm⟩ : ∃ m, x.zs.length = m := ⟨_, rfl⟩
        rw [hm] at c1 HM
        have hm0 : m < 2000 := by have := HM.out; have := HT.out; omega
        have Hm := veil hm
        clear hm HM
        by_cases hk : x.kd % 3 = 0
        · have hkk : (x.kd % 3 == 0) = true := beq_iff_eq.2 hk
          clear hk
          go_wp2_with fail
          have TW := veil (twinWords_any x.A m x.c x.zs wr Hm.out (by omega) HX.out.rd)
          have T0 := veil (twin_new wr x.zs)
          have P0 := veil (HP.out.keep (below_new wr (.cells (bv (x.zs ++ List.replicate 4 3351707649)).toArray 31)))
          have TG := veil (Nat.ne_of_gt HP.out.wd.lt)
          have TR := veil (Nat.ne_of_gt HP.out.rf.row.lt)
          have TV : Hid (v.ownBlock ≠ some wr.heap.size) := fun e => by have := (HP.out.own e).2; omega
          have TB : Hid (w.heap.size ≤ wr.heap.size) := HP.out.size
          refine (TW.out).mono ?_
          rintro e w1 ⟨rfl, hw1⟩
          rw [hw1] at T0 P0
          generalize wr.heap.size = tb at *
          clear hw1 TW HP HX
          go_wp2_with fail
          obtain ⟨k, hkd⟩ : ∃ k, k = min m (256 - Q) := ⟨_, rfl⟩
          have km : k ≤ m := by omega
          have kq : Q + k ≤ 256 := by omega
          have KD : Hid (k = min m (256 - q.length)) := by show _ = _; rw [E1.out]; exact hkd
          have D0 : Hid (Pl w w1.drew g r v q q) := P0.out.keep ⟨rfl, rfl, rfl, Nat.le_refl _, fun _ _ => rfl⟩
          have U0 : Hid (TwinAt w1.drew tb x.zs) := T0
          have X0 := veil (HX0.out.keep D0.out.bel)
          have c1' : w1.cell? ⟨(a.add (j * 3)).block, (a.add (j * 3)).off + 1, none⟩ = some (.slice x.A m x.c) := by have := X0.out.c1; rw [Hm.out] at this; exact this
          have Hd1 : Hid ((k != k) = false) := by show _ = _; simp
          clear c0 c1 k0 k1 hkk P0 T0 hkd
          go_region_held3 (fun w' => w'.cell? ⟨(a.add (j * 3)).block, (a.add (j * 3)).off + 1, none⟩ = some (.slice x.A m x.c)) (go_keep)
            (first
              | (go_at_call 11
                 refine (feed_at (some ⟨tb, 0, none⟩) m (m + 4) k D0.out.wd U0.out.rd (fun _ b e => by injection e with e; subst e; exact TG.out) X0.out.byt Hm.out (by omega) KD.out).mono ?_
                 rintro e w2 ⟨rfl, h2, g2⟩
                 have P2 := veil (D0.out.turn h2 g2)
                 have U2 := veil (U0.out.gb g2 TG.out)
                 have X2 := veil (HX0.out.keep P2.out.bel)
                 have c2 : w2.cell? ⟨(a.add (j * 3)).block, (a.add (j * 3)).off + 1, none⟩ = some (.slice x.A m x.c) := by have := X2.out.c1; rw [Hm.out] at this; exact this
                 clear h2 g2)
              | (go_at_call 12
                 refine (refFeed_k x.A m x.c k P2.out.rf P2.out.size (by rw [E1.out]; exact hQ) X2.out.rd Hm.out (by omega) (fun hz b e => ⟨HX0.out.far P2.out.lr hz b e, fun e2 => by have := (P2.out.own e2.symm).1; exact HX0.out.far this hz b e rfl⟩) KD.out).mono ?_
                 rintro e w3 ⟨rfl, v3, h3, a3, l3⟩
                 have P3 := veil (P2.out.ref h3 a3 l3)
                 have U3 := veil (U2.out.alt a3 TR.out (fun e => TV.out e.symm))
                 have X3 := veil (HX0.out.keep P3.out.bel)
                 have N3 : Hid (v3.ownBlock ≠ some tb) := fun e => by rcases l3 tb e with h | h; exact TV.out h.symm; have := U2.out.lt; omega
                 have c3 : w3.cell? ⟨(a.add (j * 3)).block, (a.add (j * 3)).off + 1, none⟩ = some (.slice x.A m x.c) := by have := X3.out.c1; rw [Hm.out] at this; exact this
                 clear h3 a3 l3)
              | (go_at_call 13
                 refine (leftWords_true tb x.A m (m + 4) x.c x.zs _ Hm.out (by omega) U3.out X3.out.rd (by omega)).mono ?_
                 rintro e w4 ⟨rfl, s4⟩
                 have P4 := veil (P3.out.keep (below_still (Below.refl _ _) s4))
                 have U4 : Hid (TwinAt w4 tb x.zs) := Row.keep U3.out (below_still (Below.refl _ _) s4)
                 have X4 := veil (HX0.out.keep P4.out.bel)
                 have c4 : w4.cell? ⟨(a.add (j * 3)).block, (a.add (j * 3)).off + 1, none⟩ = some (.slice x.A m x.c) := by have := X4.out.c1; rw [Hm.out] at this; exact this
                 clear s4))
          go_wp2_with fail
          go_loopw [7] (fun i wr => ∃ (i' : Nat) (cs : Array Value), i' ≤ m ∧ i = .int .i64 i' ∧ cs.size = m + 4 ∧ Hid (Row wr tb 31 cs) ∧ Hid (w4.grownBy wr (some tb))) (fun i _ => m - (intOf i).toNat)
          case atStart => exact ⟨0, _, Nat.zero_le _, rfl, by simp [bv, Hm.out], U4, veil (World.grownBy.refl _ _)⟩
          case round =>
            obtain ⟨i, cs, hi, rfl, hsz, hRow, hGb⟩ := hrel
            by_cases hil : i < m
            · have ci : wr.cell? ⟨tb, i, none⟩ = some (cs.getD i undef) := by rw [hRow.out.cell]; simp [Array.getD, show i < cs.size by omega]
              have fi := hRow.out.frozen i
              generalize cs.getD i undef = old at ci
              go_wp2_with fail
              go_roundw
              case rel => exact ⟨i + 1, _, by omega, by go_num, by rw [Array.size_setIfInBounds]; exact hsz, hRow.out.set i (.int .u32 0), gb_trans hGb.out (gb_set _ tb i _)⟩
              case measure => simp [intOf]; omega
            · have P5 := veil (P4.out.away hGb.out TG.out TR.out N3.out TB.out)
              clear hRow hGb P4 U4 X4 c4 c3 c2
              obtain ⟨A9, c9, rfl⟩ := own_is P5.out.rf.own
              have L9 : Hid ((q ++ x.zs.take k).length = Q + k) := by show _ = _; rw [List.length_append, E1.out, List.length_take, Hm.out]; omega
              rw [L9.out] at P5
              have c9' : wr.cell? ⟨r, 0, none⟩ = some (.slice A9 (Q + k) c9) := P5.out.rf.row.cell 0
              go_wp2_with fail
              go_quiet ((go_at_call 18; exact quiet_as (len_eq (P5.out.wd.drewN _) L9.out)))
              go_wp2_with fail
              go_roundw
              case rel => exact ⟨j + 1, Q + k, by omega, by go_num, by omega, _, q ++ x.zs.take k, L9.out, P5.out.drewN _⟩
              case measure => simp [intOf]; omega
        · have hk0 : (x.kd % 3 == 0) = false := beq_eq_false_iff_ne.2 hk
          by_cases hk1 : x.kd % 3 = 1
          · have hk2 : (x.kd % 3 == 1) = true := beq_iff_eq.2 hk1
            clear hk hk1 HX HX0 FAR c1
            go_wp2_with fail
            refine (next_any HP.out.wd).mono ?_
            rintro e w1 ⟨rfl, h1, g1⟩
            have P1 := veil (HP.out.turn h1 g1)
            clear h1 g1 HP
            go_wp2_with fail
            refine (refNext_any P1.out.rf P1.out.size (by rw [E1.out]; omega)).mono ?_
            rintro e w2 ⟨rfl, v2, h2, a2, l2⟩
            have P2 := veil (P1.out.ref h2 (a2.more _) l2)
            clear h2 a2 l2 P1
            go_wp2_with fail
            obtain ⟨A9, c9, rfl⟩ := own_is P2.out.rf.own
            have L9 : Hid ((q.tail).length = Q - 1) := by show _ = _; rw [List.length_tail, E1.out]
            rw [L9.out] at P2
            have c9' : w2.cell? ⟨r, 0, none⟩ = some (.slice A9 (Q - 1) c9) := P2.out.rf.row.cell 0
            go_wp2_with fail
            go_quiet ((go_at_call 18; exact quiet_as (len_eq (P2.out.wd.drewN _) L9.out)))
            go_wp2_with fail
            go_roundw
            case rel => exact ⟨j + 1, Q - 1, by omega, by go_num, by omega, _, q.tail, L9.out, P2.out.drewN _⟩
            case measure => simp [intOf]; omega
          · have hk2 : (x.kd % 3 == 1) = false := beq_eq_false_iff_ne.2 hk1
            clear hk hk1 c1
            go_wp2_with fail
            have D0 := veil (HP.out.drewN 1)
            have X0 := veil (HX0.out.keep HP.out.bel)
            have d0 : wr.cell? ⟨(a.add (j * 3)).block, (a.add (j * 3)).off + 2, none⟩ = some (.int .u32 x.n) := X0.out.c2
            clear c0 k0 k1 HP HX
            go_region_held3 (fun w' => w'.cell? ⟨(a.add (j * 3)).block, (a.add (j * 3)).off + 2, none⟩ = some (.int .u32 x.n)) (go_keep)
              (first
                | (go_at_call 16
                   refine (below_any x.n X0.out.n0 D0.out.wd).mono ?_
                   rintro e w2 ⟨rfl, h2, g2⟩
                   have P2 := veil (D0.out.turn h2 g2)
                   have d2 : w2.cell? ⟨(a.add (j * 3)).block, (a.add (j * 3)).off + 2, none⟩ = some (.int .u32 x.n) := (HX0.out.keep P2.out.bel).c2
                   clear h2 g2)
                | (go_at_call 17
                   refine (refBelow_any x.n X0.out.n0 D0.out.wd.byt P2.out.rf P2.out.size (by rw [E1.out]; omega)).mono ?_
                   rintro e w3 ⟨rfl, v3, h3, a3, l3⟩
                   have P3 := veil (P2.out.ref h3 (a3.more _) l3)
                   have d3 : w3.cell? ⟨(a.add (j * 3)).block, (a.add (j * 3)).off + 2, none⟩ = some (.int .u32 x.n) := (HX0.out.keep P3.out.bel).c2
                   clear h3 a3 l3))
            clear P2 D0 d0 d2 d3 X0 HX0 FAR
            go_wp2_with fail
            obtain ⟨A9, c9, rfl⟩ := own_is P3.out.rf.own
            have L9 : Hid ((q.tail).length = Q - 1) := by show _ = _; rw [List.length_tail, E1.out]
            rw [L9.out] at P3
            have c9' : w3.cell? ⟨r, 0, none⟩ = some (.slice A9 (Q - 1) c9) := P3.out.rf.row.cell 0
            go_wp2_with fail
            go_quiet ((go_at_call 18; exact quiet_as (len_eq (P3.out.wd.drewN _) L9.out)))
            go_wp2_with fail
            go_roundw
            case rel => exact ⟨j + 1, Q - 1, by omega, by go_num, by omega, _, q.tail, L9.out, P3.out.drewN _⟩
            case measure => simp [intOf]; omega
      · go_wp2_with fail
        have hF0 : Hid (Fit w wr g r Q) := ⟨v, q, E1.out, HP.out⟩
        clear E1 HP hF
        go_loopw [] (fun wr => ∃ Q : Nat, Q ≤ 256 ∧ Hid (Fit w wr g r Q)) (fun wr => lenAt wr r)
        case atStart => exact ⟨Q, hQ, hF0⟩
        case round =>
          clear hF0 hQ
          obtain ⟨Q, hQ, hF⟩ := hrel
          obtain ⟨v, q, e1, hP⟩ := hF.out
          obtain ⟨A9, c9, rfl⟩ := own_is hP.rf.own
          rw [e1] at hP
          have c9' : wr.cell? ⟨r, 0, none⟩ = some (.slice A9 Q c9) := hP.rf.row.cell 0
          have LA := veil (lenAt_of c9')
          have HP := veil hP
          have E1 := veil e1
          clear hP hF e1
          match q, Q with
          | [], 0 =>
            go_wp2_with fail
            refine (len_any HP.out.wd).mono ?_
            rintro e w8 ⟨rfl, rfl⟩
            go_wp2_with fail
            refine (lives_true _).mono ?_
            rintro e w9 ⟨rfl, q9⟩
            have b9 := HP.out.bel.trans (q9.mono HP.out.bel.size)
            go_wp2_with fail
            go_ret
            exact ⟨rfl, b9⟩
          | z :: t, R + 1 =>
            go_wp2_with fail
            refine (next_any HP.out.wd).mono ?_
            rintro e w1 ⟨rfl, h1, g1⟩
            have P1 := veil (HP.out.turn h1 g1)
            clear h1 g1 HP
            go_wp2_with fail
            refine (refNext_any P1.out.rf P1.out.size (by rw [E1.out]; omega)).mono ?_
            rintro e w2 ⟨rfl, v2, h2, a2, l2⟩
            have P2 := veil (P1.out.ref h2 (a2.more _) l2)
            clear h2 a2 l2 P1
            go_wp2_with fail
            go_roundw
            case rel => exact ⟨R, by omega, v2, t, by have := E1.out; simpa using this, P2.out⟩
            case measure => rw [LA.out, P2.out.rf.len]; have := E1.out; simp at this ⊢; omega
          | [], R + 1 => have := E1.out; simp at this
          | z :: t, 0 => have := E1.out; simp at this


theorem own : ownKnob Try.prog.godebug = none := by kernel_rfl
theorem readable : ∀ t ∈ Try.f3.params.toList, Try.prog.readableRec t = true ∧ t < Try.prog.types.size := by
  rw [Try.params3]
  intro t ht
  simp at ht
  subst ht
  exact ⟨by kernel_rfl, of_decide_eq_true (by kernel_rfl)⟩

set_option maxRecDepth 100000 in
theorem lifted (os : Os) (started : os.Started) (H : Type) (enc : TypeId × Value → H) :
    ReturnsInHanded {} Try.checked os 3 .any (Rows.drawsPlaySpec.pre6 enc Try.prog Try.f3 Rows.drawsPlayRow.domain false) (Rows.drawsPlaySpec.post enc Try.prog Try.f3 false true false false) := by
  refine returnsInHanded_of_change_sized (C := Try.checked) own started (by kernel_rfl) Try.func3
    (ChangeSpec.witness6 (enc := enc) (C := Try.checked) false ⟨#[], #[.slice none 0 0], []⟩ 8 (by kernel_rfl) (by kernel_rfl) (by kernel_rfl) (by kernel_rfl)) ?_
  intro W base args ds gs before hval0 hW _ hsz0 _
  have hval : ∀ (j : Nat) t v, Try.f3.params[j]? = some t → args[j]? = some v → Value.okWide Try.prog W .any base t v := hval0
  have hW' := hW
  obtain ⟨p, q, hA0, hV, rfl, _, _⟩ := hW
  have hA : DataW.TrodAll enc Try.prog W 0 (fun _ => true) true Try.f3.params.toList args.toList ds p := hA0
  rw [Try.params3] at hA hval
  obtain ⟨v0, vs0, d0, ds0, p0, q0, hargs, rfl, rfl, h0, r0⟩ := trodAll_cons hA
  obtain ⟨rfl, rfl, rfl⟩ := trodAll_nil r0
  obtain rfl : args = #[v0] := by cases args; simp_all
  obtain ⟨rfl, rfl⟩ := trodVars_none hV
  have ho := opens_arg h0 (slim_of hsz0 (j := 0) (by rw [Try.params3]; rfl) rfl)
  obtain ⟨A0, n0, c0, rfl⟩ := okWide_slice Try.underlying22 (hval 0 22 v0 rfl rfl)
  obtain ⟨A, c, l, e, _, hn, hD⟩ := open_acts ho
  simp [Value.cells] at e
  obtain ⟨rfl, rfl, rfl⟩ := e
  have hw : Calls Try.prog 3 #[.slice A0 l.length c0] W fun e w' => e = .returned (.bool true) ∧ Below W.heap.size W w' := by
    exact walk A0 l.length c0 l W rfl hn hD
  refine hw.mono fun e W' ⟨he, hb⟩ => ?_
  subst he
  exact ⟨_, rfl, law_post (by kernel_rfl) rfl rfl Try.underlying4 readable hW' rfl hb⟩

/-- DrawsPlay, as given -/
theorem holds : Rows.DrawsPlaySaid :=
  OpenClaim.holds_of_wide 3 Try.f3 rfl rfl rfl rfl rfl rfl rfl ⟨rfl, rfl, rfl, rfl, rfl⟩ rfl rfl rfl rfl rfl (by kernel_rfl) Try.func3 (by kernel_rfl)
    (of_decide_eq_true (by kernel_rfl)) (by unfold Func.isWrapper; first | (rw [if_pos (by decide +kernel)]; kernel_rfl) | (rw [if_neg (by decide +kernel)]; exact ⟨rfl, rfl⟩))
    (fun os started H enc _ => lifted os started H enc)

#print axioms holds
end Go.Proofs.Ytmjpmagfbiocnaa.drawsPlay
